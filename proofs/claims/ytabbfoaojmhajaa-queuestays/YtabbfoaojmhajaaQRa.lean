/- Acts, and numbers, that came in. No condition. -/
import Derived.Test.YtabbfoaojmhajaaQR
import Derived.Test.YtabbfoaojmhajaaQU
namespace Go.Proofs.Ytabbfoaojmhajaa.Q
open Go.ChangeShapes Go.WideShapes Go.ChangeAt Go.RowKit Go.Deep

theorem cellsAct : Try.prog.cellsOf 33 = 3 := by kernel_rfl
theorem cells3 : Try.prog.cellsOf 3 = 1 := by kernel_rfl
theorem cells4 : Try.prog.cellsOf 4 = 1 := by kernel_rfl
theorem cellsU : Try.prog.cellsOf 31 = 1 := by kernel_rfl
theorem add_add' (a : Addr) (j k : Nat) : (a.add j).add k = a.add (j + k) := by
  obtain ⟨b, off, spot⟩ := a
  by_cases hj : j = 0
  · subst hj; simp [Addr.add]
  · by_cases hk : k = 0
    · subst hk; simp [Addr.add]
    · simp [Addr.add, hj, hk, Nat.add_assoc]
theorem no_spot {W : World} {a : Addr} {v : Value} (h : W.cell? (a.add 0) = some v) : a = ⟨a.block, a.off, none⟩ ∧ a.block < W.heap.size := by
  have h1 := h
  obtain ⟨b, off, spot⟩ := a
  simp only [Addr.add, if_true] at h1
  cases spot with
  | none => exact ⟨rfl, World.block_lt_of_cell? W _ h1⟩
  | some q =>
    unfold World.cell? at h1
    split at h1
    · simp at h1
    · cases h1

set_option maxRecDepth 100000 in
theorem acts_of {H : Type} {enc : TypeId × Value → H} {W : World} {base : Nat} {v : Value} {d : DataW H} {ps : List MemPlace} (hv : Value.okWide Try.prog W .any base 22 v)
    (h : DataW.Trod enc Try.prog W 0 (fun _ => true) true 22 v d ps) : ∃ p n cap A, v = .slice p n cap ∧ Al W p n cap A := by
  obtain ⟨p, n, cap, rfl⟩ := okWide_slice Try.underlying22 hv
  refine ⟨p, n, cap, ?_⟩
  obtain ⟨fuel, hf⟩ := h
  have hf' : DataW.trod enc Try.prog W 0 (fun _ => true) true fuel 22 [.slice p n cap] = some (d, ps) := by simpa [Value.cells] using hf
  rcases open_slice Try.underlying22 hf' with ⟨h0, _⟩ | ⟨a, len, cap', m, k, D, Pl, hcs, _, hl, hm, hmm, _, hall⟩
  · simp at h0
    obtain ⟨rfl, rfl, rfl⟩ := h0
    exact ⟨[], rfl, ⟨rfl, Nat.le_refl _, Nat.zero_le _, (fun x hx => by cases hx), .inl rfl⟩⟩
  · simp at hcs
    obtain ⟨rfl, rfl, rfl⟩ := hcs
    simp only [if_true] at hmm
    subst hmm
    have key : ∀ i, ∃ x : Ac, i < n → x.n < 18446744073709551616 ∧ W.cell? (a.add (i * 3)) = some (.int .i64 x.what) ∧ W.cell? (a.add (i * 3 + 1)) = some (.int .u64 (x.n : Nat)) ∧ W.cell? (a.add (i * 3 + 2)) = some (.bool x.o) := by
      intro i
      by_cases hi : i < n
      · obtain ⟨cs', h1, h2⟩ := hall i (by omega)
        rw [cellsAct] at h1
        obtain ⟨_, hlen, hcell⟩ := World.cells?_some h1
        obtain ⟨xs, k', _, hxy, _, hxl, hf⟩ := DataW.trod_struct Try.underlying33 h2
        match cs', hlen, xs, hxl with
        | [v0, v1, v2], _, [y0, y1, y2], _ =>
          have g0 := hf 0 _ rfl
          have g1 := hf 1 _ rfl
          have g2 := hf 2 _ rfl
          simp [cells3, cells4, cellsU] at g0 g1 g2
          obtain ⟨z0, e0, _, _⟩ := DataW.trod_int Try.underlying3 g0
          obtain ⟨z1, e1, _, w1⟩ := DataW.trod_int Try.underlying31 g1
          obtain ⟨o2, e2, _⟩ := DataW.trod_bool Try.underlying4 g2
          simp only [List.cons.injEq, and_true] at e0 e1 e2
          subst e0 e1 e2
          obtain ⟨m1, rfl, hm1⟩ := u64_nat w1
          have q0 := hcell 0 (by omega)
          have q1 := hcell 1 (by omega)
          have q2 := hcell 2 (by omega)
          rw [add_add'] at q0 q1 q2
          exact ⟨⟨z0, m1, o2⟩, fun _ => ⟨hm1, by simpa using q0, by simpa using q1, by simpa using q2⟩⟩
      · exact ⟨⟨0, 0, false⟩, fun e => absurd e hi⟩
    obtain ⟨X, hX⟩ := Classical.axiomOfChoice key
    obtain ⟨A, hA0⟩ : ∃ A : List Ac, A = (List.range n).map X := ⟨_, rfl⟩
    have hll : A.length = n := by rw [hA0]; simp
    have hat : ∀ j x, A[j]? = some x → j < n ∧ x = X j := by
      intro j x hj
      have hlt := (List.getElem?_eq_some_iff.1 hj).1
      subst hA0
      rw [List.getElem?_map, List.getElem?_range (by omega)] at hj
      simp at hj
      exact ⟨by omega, hj.symm⟩
    refine ⟨A, rfl, ⟨hll, hl, hm, fun x hx => ?_, ?_⟩⟩
    · obtain ⟨j, hj⟩ := List.getElem?_of_mem hx
      obtain ⟨h1, rfl⟩ := hat j x hj
      exact (hX j h1).1
    · rcases Nat.eq_zero_or_pos n with e | e
      · exact .inl e
      · obtain ⟨hsp, hlt⟩ := no_spot (by have := (hX 0 e).2.1; rwa [Nat.zero_mul] at this)
        refine .inr ⟨a.block, a.off, by rw [← hsp], hlt, fun j x hj => ?_⟩
        obtain ⟨h1, rfl⟩ := hat j x hj
        obtain ⟨_, c0, c1, c2⟩ := hX j h1
        rw [hsp, Addr.add_lit] at c0 c1 c2
        exact ⟨c0, by rw [Nat.add_assoc]; exact c1, by rw [Nat.add_assoc]; exact c2⟩

/-- Numbers that came in. -/
structure Nl (w : World) (p : Option Addr) (n c : Nat) (L : List Nat) : Prop where
  len : L.length = n
  le : n ≤ c
  cap : c ≤ maxLen
  n64 : ∀ x ∈ L, x < 18446744073709551616
  out : n = 0 ∨ ∃ b off, p = some ⟨b, off, none⟩ ∧ b < w.heap.size ∧ ∀ i x, L[i]? = some x → w.cell? ⟨b, off + i, none⟩ = some (.int .u64 (x : Nat))
set_option maxRecDepth 100000 in
theorem nums_of {H : Type} {enc : TypeId × Value → H} {W : World} {base : Nat} {v : Value} {d : DataW H} {ps : List MemPlace} (hv : Value.okWide Try.prog W .any base 29 v)
    (h : DataW.Trod enc Try.prog W 0 (fun _ => true) true 29 v d ps) : ∃ p n cap L, v = .slice p n cap ∧ Nl W p n cap L := by
  obtain ⟨p, n, cap, rfl⟩ := okWide_slice Try.underlying29 hv
  refine ⟨p, n, cap, ?_⟩
  obtain ⟨fuel, hf⟩ := h
  have hf' : DataW.trod enc Try.prog W 0 (fun _ => true) true fuel 29 [.slice p n cap] = some (d, ps) := by simpa [Value.cells] using hf
  rcases open_slice Try.underlying29 hf' with ⟨h0, _⟩ | ⟨a, len, cap', m, k, D, Pl, hcs, _, hl, hm, hmm, _, hall⟩
  · simp at h0
    obtain ⟨rfl, rfl, rfl⟩ := h0
    exact ⟨[], rfl, ⟨rfl, Nat.le_refl _, Nat.zero_le _, (fun x hx => by cases hx), .inl rfl⟩⟩
  · simp at hcs
    obtain ⟨rfl, rfl, rfl⟩ := hcs
    simp only [if_true] at hmm
    subst hmm
    have key : ∀ i, ∃ x : Nat, i < n → x < 18446744073709551616 ∧ W.cell? (a.add i) = some (.int .u64 (x : Nat)) := by
      intro i
      by_cases hi : i < n
      · obtain ⟨cs', h1, h2⟩ := hall i (by omega)
        rw [cellsU] at h1
        obtain ⟨_, hlen, hcell⟩ := World.cells?_some h1
        match cs', hlen with
        | [v0], _ =>
          obtain ⟨z1, e1, _, w1⟩ := DataW.trod_int Try.underlying31 h2
          simp only [List.cons.injEq, and_true] at e1
          subst e1
          obtain ⟨m1, rfl, hm1⟩ := u64_nat w1
          have q0 := hcell 0 (by omega)
          rw [add_add'] at q0
          exact ⟨m1, fun _ => ⟨hm1, by simpa using q0⟩⟩
      · exact ⟨0, fun e => absurd e hi⟩
    obtain ⟨X, hX⟩ := Classical.axiomOfChoice key
    obtain ⟨L, hA0⟩ : ∃ A : List Nat, A = (List.range n).map X := ⟨_, rfl⟩
    have hll : L.length = n := by rw [hA0]; simp
    have hat : ∀ j x, L[j]? = some x → j < n ∧ x = X j := by
      intro j x hj
      have hlt := (List.getElem?_eq_some_iff.1 hj).1
      subst hA0
      rw [List.getElem?_map, List.getElem?_range (by omega)] at hj
      simp at hj
      exact ⟨by omega, hj.symm⟩
    refine ⟨L, rfl, ⟨hll, hl, hm, fun x hx => ?_, ?_⟩⟩
    · obtain ⟨j, hj⟩ := List.getElem?_of_mem hx
      obtain ⟨h1, rfl⟩ := hat j x hj
      exact (hX j h1).1
    · rcases Nat.eq_zero_or_pos n with e | e
      · exact .inl e
      · obtain ⟨hsp, hlt⟩ := no_spot (hX 0 e).2
        refine .inr ⟨a.block, a.off, by rw [← hsp], hlt, fun j x hj => ?_⟩
        obtain ⟨h1, rfl⟩ := hat j x hj
        obtain ⟨_, c0⟩ := hX j h1
        rw [hsp, Addr.add_lit] at c0
        exact c0
end Go.Proofs.Ytabbfoaojmhajaa.Q
