/- The list of keys and values that came in, opened: its cells hold texts and numbers. No condition. -/
import Derived.Test.YtgcfollelefmcaaRows
import Derived.Test.YtgcfollelefmcaaNJ
import Derived.WalkKit
import Derived.ProofKit
import Derived.OpenShut
import Derived.ShutString
import Derived.Lib.SmallJoins
import Derived.ChangeSlices
import Derived.Carry
import Derived.SizedLaws
import Derived.Deep.SlicePairs
namespace Go.Proofs.Ytgcfollelefmcaa
open Go.ChangeShapes Go.WideShapes Go.ChangeAt Go.RowKit Go.Deep

theorem laidOut : laidOutB Try.prog = true := by kernel_rfl
theorem cells45 : Try.prog.cellsOf 45 = 4 := by kernel_rfl
theorem cells9 : Try.prog.cellsOf 9 = 1 := by kernel_rfl
theorem cells3_ : Try.prog.cellsOf 3 = 1 := by kernel_rfl

theorem no_spot {W : World} {a : Addr} {v : Value} (h : W.cell? (a.add 0) = some v) : a = ⟨a.block, a.off, none⟩ ∧ a.block < W.heap.size := by
  have h1 := h
  obtain ⟨b, off, spot⟩ := a
  simp only [Addr.add, if_true] at h1
  cases spot with
  | none => exact ⟨rfl, World.block_lt_of_cell? W _ h1⟩
  | some q =>
    unfold World.cell? at h1
    split at h1
    · simp at h1
    · cases h1

theorem kicl_has {L : List Ki} {j : Nat} {u : Value} (h : (kicl L)[j]? = some u) : ∃ x, L[j / 4]? = some x ∧ x.cells[j % 4]? = some u := by
  induction L generalizing j with
  | nil => simp [kicl] at h
  | cons y r ih =>
    rw [kicl_cons] at h
    by_cases hj : j < 4
    · refine ⟨y, by rw [Nat.div_eq_of_lt hj]; rfl, ?_⟩
      rw [List.getElem?_append_left (by simpa [Ki.cells] using hj)] at h
      rw [Nat.mod_eq_of_lt hj]
      exact h
    · rw [List.getElem?_append_right (by simp [Ki.cells]; omega)] at h
      have : y.cells.length = 4 := rfl
      rw [this] at h
      obtain ⟨x, h1, h2⟩ := ih h
      refine ⟨x, ?_, ?_⟩
      · rw [show j / 4 = (j - 4) / 4 + 1 by omega]
        simpa using h1
      · rw [show j % 4 = (j - 4) % 4 by omega]
        exact h2

/-- The list that is handed in, or an empty one, wherever it may point. -/
def Gw (W : World) (p : Option Addr) (n cap : Nat) (L : List Ki) : Prop := Gv W p n cap L ∨ (n = 0 ∧ L = [])

set_option maxRecDepth 100000 in
theorem given_of {H : Type} {enc : TypeId × Value → H} {W : World} {base : Nat} {v : Value} {d : DataW H} {ps : List MemPlace} (hv : Value.okWide Try.prog W .any base 22 v)
    (h : DataW.Trod enc Try.prog W 0 (fun _ => true) true 22 v d ps) : ∃ p n cap L, v = .slice p n cap ∧ Gw W p n cap L := by
  obtain ⟨p, n, cap, rfl⟩ := okWide_slice Try.underlying22 hv
  obtain ⟨fuel, hf⟩ := h
  have hf' : DataW.trod enc Try.prog W 0 (fun _ => true) true fuel 22 [.slice p n cap] = some (d, ps) := by simpa [Value.cells] using hf
  rcases open_slice Try.underlying22 hf' with ⟨h0, _⟩ | ⟨a, len, cap', m, k, D, Pl, hcs, _, hl, hm, hmm, _, hall⟩
  · simp at h0
    obtain ⟨rfl, rfl, rfl⟩ := h0
    exact ⟨_, _, _, [], rfl, .inr ⟨rfl, rfl⟩⟩
  · simp at hcs
    obtain ⟨rfl, rfl, rfl⟩ := hcs
    simp only [if_true] at hmm
    subst hmm
    have key : ∀ i, ∃ x : Ki, i < n → W.cell? (a.add (i * 4)) = some (.string x.s) ∧ W.cell? (a.add (i * 4 + 1)) = some (.string x.v) ∧ W.cell? (a.add (i * 4 + 2)) = some (.int .i64 x.pg) ∧ W.cell? (a.add (i * 4 + 3)) = some (.int .i64 x.ln) := by
      intro i
      by_cases hi : i < n
      · obtain ⟨cs', h1, h2⟩ := hall i (by omega)
        rw [cells45] at h1
        obtain ⟨_, hlen, hcell⟩ := World.cells?_some h1
        obtain ⟨xs, k', _, hxy, _, hxl, hf⟩ := DataW.trod_struct Try.underlying45 h2
        match cs', hlen, xs, hxl with
        | [v0, v1, v2, v3], _, [y0, y1, y2, y3], _ =>
          have g0 := hf 0 _ rfl
          have g1 := hf 1 _ rfl
          have g2 := hf 2 _ rfl
          have g3 := hf 3 _ rfl
          simp [cells3_, cells9] at g0 g1 g2 g3
          obtain ⟨z0, e0, _, _⟩ := DataW.trod_string Try.underlying9 g0
          obtain ⟨z1, e1, _, _⟩ := DataW.trod_string Try.underlying9 g1
          obtain ⟨z2, e2, _, _⟩ := DataW.trod_int Try.underlying3 g2
          obtain ⟨z3, e3, _, _⟩ := DataW.trod_int Try.underlying3 g3
          simp only [List.cons.injEq, and_true] at e0 e1 e2 e3
          subst e0 e1 e2 e3
          have q0 := hcell 0 (by omega)
          have q1 := hcell 1 (by omega)
          have q2 := hcell 2 (by omega)
          have q3 := hcell 3 (by omega)
          rw [add_add] at q0 q1 q2 q3
          exact ⟨⟨z0, z1, z2, z3⟩, fun _ => ⟨by simpa using q0, by simpa using q1, by simpa using q2, by simpa using q3⟩⟩
      · exact ⟨⟨⟨#[]⟩, ⟨#[]⟩, 0, 0⟩, fun e => absurd e hi⟩
    obtain ⟨X, hX⟩ := Classical.axiomOfChoice key
    obtain ⟨L, hL0⟩ : ∃ L : List Ki, L = (List.range n).map X := ⟨_, rfl⟩
    have hll : L.length = n := by rw [hL0]; simp
    have hat : ∀ j x, L[j]? = some x → j < n ∧ x = X j := by
      intro j x hj
      have hlt := (List.getElem?_eq_some_iff.1 hj).1
      rw [hll] at hlt
      rw [hL0, List.getElem?_map, List.getElem?_range hlt] at hj
      simp at hj
      exact ⟨hlt, hj.symm⟩
    by_cases hn : n = 0
    · subst hn
      exact ⟨_, _, _, L, rfl, .inr ⟨rfl, List.length_eq_zero_iff.1 hll⟩⟩
    · obtain ⟨hsp, hlt⟩ := no_spot (by have := (hX 0 (by omega)).1; rwa [Nat.zero_mul] at this)
      refine ⟨_, _, _, L, rfl, .inl ⟨⟨by rw [kicl_length, hll], by omega, hm, .inr ⟨a.block, a.off, by rw [← hsp], fun j u hu => ?_⟩⟩⟩⟩
      obtain ⟨x, hx, hu⟩ := kicl_has hu
      obtain ⟨hjn, rfl⟩ := hat _ _ hx
      obtain ⟨c0, c1, c2, c3⟩ := hX _ hjn
      rw [hsp, Addr.add_lit] at c0 c1 c2 c3
      have hj4 : j % 4 < 4 := Nat.mod_lt _ (by decide)
      have hje : j = j / 4 * 4 + j % 4 := by omega
      have hcs : j % 4 = 0 ∨ j % 4 = 1 ∨ j % 4 = 2 ∨ j % 4 = 3 := by omega
      rcases hcs with e | e | e | e
      · rw [e] at hu hje; rw [hje]; simp [Ki.cells] at hu; subst hu; exact c0
      · rw [e] at hu hje; rw [hje]; simp [Ki.cells] at hu; subst hu; exact c1
      · rw [e] at hu hje; rw [hje]; simp [Ki.cells] at hu; subst hu; exact c2
      · rw [e] at hu hje; rw [hje]; simp [Ki.cells] at hu; subst hu; exact c3
end Go.Proofs.Ytgcfollelefmcaa
