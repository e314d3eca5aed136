/- The walk of the reference's Write where nothing is written; and what is needed of append where nothing is added. Conditions: none. -/
import Derived.Test.YtfnfdngenohhhaaWalkX
namespace Go.Proofs.Ytfnfdngenohhhaa
open Go.ChangeShapes Go.WideShapes Go.ChangeAt Go.RowKit

set_option maxHeartbeats 1000000 in
set_option maxRecDepth 100000 in
theorem rwrite_dead {B : Nat} {w : World} {v : Value} {q : R} (h : RVal B w v q) (hB : B ≤ w.heap.size) (n : Int) (s : ByteArray) (hd : q.dead = true) :
    Calls Try.prog 14 #[v, .int .i64 n, .string s] w fun e w' => ∃ v', e = .returned (.tuple #[v', .int .i64 40]) ∧ RVal B w' v' q ∧ Kept w w' := by
  obtain ⟨vS, vT, vW, vC, rfl, hr⟩ := h.out
  obtain ⟨pS, cS, pT, cT, pW, cW, pC, cC, rfl, rfl, rfl, rfl⟩ := hr.slices
  unfold R.cells
  rw [hd]
  go_enter Try.func14, Try.ntmps14
  go_wp2
  refine bodyPost_ret (v := .tuple #[.agg (R.cells q (.slice pS q.S.length cS) (.slice pT q.torn.length cT) (.slice pW q.wait.length cW) (.slice pC q.cuts.length cC)), .int .i64 40]) ?_ rfl ?_
  · unfold R.cells
    rw [hd]
    exact results_two (p := 6) (u := 7) (ty := 33) rfl _ _ (w.heap.size + 1) 33 _ (0, 0) _ rfl (two_new _ _ _) Try.underlying33 rfl size33
  · exact ⟨_, rfl, ⟨_, _, _, _, rfl, hr.on (((Kept.refl w).alloc _).alloc _ |>.on hB)⟩, ((Kept.refl w).alloc _).alloc _⟩

set_option maxHeartbeats 1000000 in
set_option maxRecDepth 100000 in
theorem rwrite_neg {B : Nat} {w : World} {v : Value} {q : R} (h : RVal B w v q) (hB : B ≤ w.heap.size) (n : Int) (s : ByteArray) (hd : q.dead = false) (hn : n < 0) :
    Calls Try.prog 14 #[v, .int .i64 n, .string s] w fun e w' => ∃ v', e = .returned (.tuple #[v', .int .i64 42]) ∧ RVal B w' v' q ∧ Kept w w' := by
  obtain ⟨vS, vT, vW, vC, rfl, hr⟩ := h.out
  obtain ⟨pS, cS, pT, cT, pW, cW, pC, cC, rfl, rfl, rfl, rfl⟩ := hr.slices
  unfold R.cells
  rw [hd]
  go_enter Try.func14, Try.ntmps14
  go_wp2
  refine bodyPost_ret (v := .tuple #[.agg (R.cells q (.slice pS q.S.length cS) (.slice pT q.torn.length cT) (.slice pW q.wait.length cW) (.slice pC q.cuts.length cC)), .int .i64 42]) ?_ rfl ?_
  · unfold R.cells
    rw [hd]
    exact results_two (p := 6) (u := 7) (ty := 33) rfl _ _ (w.heap.size + 1) 33 _ (0, 0) _ rfl (two_new _ _ _) Try.underlying33 rfl size33
  · exact ⟨_, rfl, ⟨_, _, _, _, rfl, hr.on (((Kept.refl w).alloc _).alloc _ |>.on hB)⟩, ((Kept.refl w).alloc _).alloc _⟩

set_option maxHeartbeats 1000000 in
set_option maxRecDepth 100000 in
theorem rwrite_over {B : Nat} {w : World} {v : Value} {q : R} (h : RVal B w v q) (hB : B ≤ w.heap.size) (n : Int) (s : ByteArray) (hd : q.dead = false) (hn : ¬ n < 0) (ho : ¬ n < (q.S.length : Int)) :
    Calls Try.prog 14 #[v, .int .i64 n, .string s] w fun e w' => ∃ v', e = .returned (.tuple #[v', .int .i64 42]) ∧ RVal B w' v' q ∧ Kept w w' := by
  obtain ⟨vS, vT, vW, vC, rfl, hr⟩ := h.out
  obtain ⟨pS, cS, pT, cT, pW, cW, pC, cC, rfl, rfl, rfl, rfl⟩ := hr.slices
  unfold R.cells
  rw [hd]
  have hb : decide ((q.S.length : Int) ≤ n) = true := by simp; omega
  go_enter Try.func14, Try.ntmps14
  go_wp2
  refine bodyPost_ret (v := .tuple #[.agg (R.cells q (.slice pS q.S.length cS) (.slice pT q.torn.length cT) (.slice pW q.wait.length cW) (.slice pC q.cuts.length cC)), .int .i64 42]) ?_ rfl ?_
  · unfold R.cells
    rw [hd]
    exact results_two (p := 6) (u := 7) (ty := 33) rfl _ _ (w.heap.size + 1) 33 _ (0, 0) _ rfl (two_new _ _ _) Try.underlying33 rfl size33
  · exact ⟨_, rfl, ⟨_, _, _, _, rfl, hr.on (((Kept.refl w).alloc _).alloc _ |>.on hB)⟩, ((Kept.refl w).alloc _).alloc _⟩

set_option maxHeartbeats 1000000 in
set_option maxRecDepth 100000 in
theorem rwrite_long {B : Nat} {w : World} {v : Value} {q : R} (h : RVal B w v q) (hB : B ≤ w.heap.size) (n : Int) (s : ByteArray) (hd : q.dead = false) (hn : ¬ n < 0) (ho : n < (q.S.length : Int)) (hs : (256 : Int) < (s.size : Int)) :
    Calls Try.prog 14 #[v, .int .i64 n, .string s] w fun e w' => ∃ v', e = .returned (.tuple #[v', .int .i64 1]) ∧ RVal B w' v' q ∧ Kept w w' := by
  obtain ⟨vS, vT, vW, vC, rfl, hr⟩ := h.out
  obtain ⟨pS, cS, pT, cT, pW, cW, pC, cC, rfl, rfl, rfl, rfl⟩ := hr.slices
  unfold R.cells
  rw [hd]
  have hb : decide ((q.S.length : Int) ≤ n) = false := by simp; omega
  go_enter Try.func14, Try.ntmps14
  go_wp2
  refine bodyPost_ret (v := .tuple #[.agg (R.cells q (.slice pS q.S.length cS) (.slice pT q.torn.length cT) (.slice pW q.wait.length cW) (.slice pC q.cuts.length cC)), .int .i64 1]) ?_ rfl ?_
  · unfold R.cells
    rw [hd]
    exact results_two (p := 6) (u := 7) (ty := 33) rfl _ _ (w.heap.size + 1) 33 _ (0, 0) _ rfl (two_new _ _ _) Try.underlying33 rfl size33
  · exact ⟨_, rfl, ⟨_, _, _, _, rfl, hr.on (((Kept.refl w).alloc _).alloc _ |>.on hB)⟩, ((Kept.refl w).alloc _).alloc _⟩

theorem run_append_no {P : Program} {w : World} {base : Nat} {t ty e : TypeId} {i : TypeInfo} {size : Nat} (ht : P.underlying t = some (.slice e)) (hi : P.info? e = some i)
    {v : Value} {n : Nat} {xs : List Value} (hown : w.ownsRow base e size v n xs) (c : Nat) : (Builtin.append_ #[t, t] ty #[v, .slice none 0 c]).run P w = .ok v w := by
  rcases hown.2 with ⟨rfl, rfl⟩ | ⟨g, cap, cur, rfl, _, _, hnc, _⟩
  · simp [Builtin.append_, run_underlying ht, sizeOf, typeInfo, hi, Builtin.lenOf, Builtin.firstCells]
  · simp [Builtin.append_, run_underlying ht, sizeOf, typeInfo, hi, Builtin.lenOf, Builtin.firstCells, hnc, storeCells]

theorem wpList_append_no {P : Program} {w : World} {ops : Array Oper} {rest : List Oper} {o : Oper} {a : Act} {Q : Exit → Act → World → Prop} (hgd : o.guard = none) (s x : Operand) (t : TypeId)
    (ho : o.op = .call { callee := .builtin .append, args := #[s, x], argTypes := #[t, t] })
    (base : Nat) (e : TypeId) (i : TypeInfo) (size : Nat) (ht : P.underlying t = some (.slice e)) (hi : P.info? e = some i)
    (v : Value) (n : Nat) (xs : List Value) (hs : a.eval s = v) (hown : w.ownsRow base e size v n xs) (m c : Nat) (hm : m = 0) (hx : a.eval x = .slice none m c)
    (h : wpList P ops Q rest (a.put o.dst v) w) : wpList P ops Q (o :: rest) a w := by
  subst hm
  refine wpList_plain hgd fun K hK => ?_
  have hrun := run_append_no (P := P) (w := w) (base := base) (ty := o.type) (size := size) ht hi hown c
  unfold Oper.wp
  simp [execOp, ho, resolve, invoke, builtin, hs, hx, hrun, Result.andThen]
  exact hK _ _ h

theorem info72 : (Try.prog.info? 72).map (fun i => (i.zero, i.size, i.bytes)) = some (some (.agg #[.int .i64 0, .string ⟨#[]⟩]), 2, 24) := by kernel_rfl

theorem wr_one (l : List Wr) : ∀ u ∈ wrCells l, u.oneCell' = true := by
  intro u hu
  simp only [wrCells, List.mem_flatMap] at hu
  obtain ⟨x, _, hx⟩ := hu
  simp at hx
  rcases hx with rfl | rfl <;> rfl

/-- What is known behind the first of the two appends. -/
structure Half1 (B : Nat) (w : World) (q : R) (v : Value) (wx : World) : Prop where
  own : wx.ownsRow (w.heap.size + 1 + 1) 72 2 v q.wait.length (wrCells q.wait)
  f : FM B w q wx
  sz : w.heap.size + 1 + 1 ≤ wx.heap.size
end Go.Proofs.Ytfnfdngenohhhaa
