/- Cuts and acts that came in, opened: their cells hold integers, fates, texts. No condition. -/
import Derived.Test.YtfnfdngenohhhaaWalkAE
import Derived.Test.YtfnfdngenohhhaaGiven
import Derived.Deep.SlicePairs
namespace Go.Proofs.Ytfnfdngenohhhaa
open Go.ChangeShapes Go.WideShapes Go.ChangeAt Go.RowKit Go.Deep

theorem cells51 : Try.prog.cellsOf 51 = 1 := by kernel_rfl
theorem cells39 : Try.prog.cellsOf 39 = 3 := by kernel_rfl
theorem cells9 : Try.prog.cellsOf 9 = 1 := by kernel_rfl

theorem no_spot {W : World} {a : Addr} {v : Value} (h : W.cell? (a.add 0) = some v) : a = ⟨a.block, a.off, none⟩ ∧ a.block < W.heap.size := by
  have h1 := h
  obtain ⟨b, off, spot⟩ := a
  simp only [Addr.add, if_true] at h1
  cases spot with
  | none => exact ⟨rfl, World.block_lt_of_cell? W _ h1⟩
  | some q =>
    unfold World.cell? at h1
    split at h1
    · simp at h1
    · cases h1

def intV : Value → Int
  | .int _ n => n
  | _ => 0
def strV : Value → ByteArray
  | .string s => s
  | _ => ⟨#[]⟩

theorem weightsAll_mem {H : Type} {P : Program} {e : TypeId} {d : DataW H} {x : Nat} : ∀ (l : List (DataW H)), d ∈ l → x ∈ DataW.weights P e d → x ∈ DataW.weightsAll P e l
  | [], h, _ => by cases h
  | y :: r, h, hx => by
    rw [DataW.weightsAll]
    rcases List.mem_cons.1 h with rfl | h
    · exact List.mem_append_left _ hx
    · exact List.mem_append_right _ (weightsAll_mem r h hx)

/-- Cuts that came in. -/
theorem cuts_of {H : Type} {enc : TypeId × Value → H} {W : World} {base : Nat} {v : Value} {d : DataW H} {ps : List MemPlace} (hv : Value.okWide Try.prog W .any base 22 v)
    (h : DataW.Trod enc Try.prog W 0 (fun _ => true) true 22 v d ps) :
    ∃ p cap l, v = .slice p (List.length l) cap ∧ CutsAt W.heap.size W v l ∧ ∀ c ∈ l, c.fates.length = 0 ∨ ∃ x ∈ DataW.weights Try.prog 22 d, c.fates.length * 8 ≤ x := by
  obtain ⟨p, n, cap, rfl⟩ := okWide_slice Try.underlying22 hv
  obtain ⟨fuel, hf⟩ := h
  have hf' : DataW.trod enc Try.prog W 0 (fun _ => true) true fuel 22 [.slice p n cap] = some (d, ps) := by simpa [Value.cells] using hf
  rcases open_slice_pairs Try.underlying22 Try.underlying53 cells53 rfl rfl cells3 cells51 hf' with ⟨h0, _⟩ | ⟨a, len, cap', m, k, V0, V1, D0, D1, P0, P1, hcs, _, hl, hm, hmm, hdd, hall⟩
  · simp at h0
    obtain ⟨rfl, rfl, rfl⟩ := h0
    exact ⟨none, 0, [], rfl, ⟨none, 0, rfl, Nat.le_refl _, Nat.zero_le _, fun j hj => absurd hj (by simp)⟩, fun c hc => by cases hc⟩
  · simp at hcs
    obtain ⟨rfl, rfl, rfl⟩ := hcs
    simp only [if_true] at hmm
    subst hmm
    have key : ∀ i, ∃ fl : List Int, i < n → FatesAt W.heap.size W (V1 i) fl ∧ (fl.length = 0 ∨ ∃ elems spare, D1 i = .slice elems spare ∧ fl.length ≤ elems.length + spare.length) := by
      intro i
      by_cases hi : i < n
      · obtain ⟨_, _, _, t1⟩ := hall i (by omega)
        obtain ⟨l, hl1, hl2⟩ := fates_of t1
        exact ⟨l, fun _ => ⟨hl1, hl2⟩⟩
      · exact ⟨[], fun e => absurd e hi⟩
    obtain ⟨F, hF⟩ := Classical.axiomOfChoice key
    obtain ⟨l, hl0⟩ : ∃ l : List Ct, l = (List.range n).map fun i => ⟨intV (V0 i), F i⟩ := ⟨_, rfl⟩
    have hll : l.length = n := by rw [hl0]; simp
    have hat : ∀ j (hj : j < l.length), l[j] = ⟨intV (V0 j), F j⟩ := by
      intro j hj
      subst hl0
      simp
    refine ⟨some a, m, l, by rw [hll], ⟨some a, m, by rw [hll], by omega, hm, fun j hj => ?_⟩, fun c hc => ?_⟩
    · obtain ⟨c0, c1, t0, _⟩ := hall j (by omega)
      obtain ⟨z, e0, _, _⟩ := DataW.trod_int Try.underlying3 t0
      simp only [List.cons.injEq, and_true] at e0
      obtain ⟨hsp, hlt⟩ := no_spot (by have := (hall 0 (by omega)).1; rwa [Nat.zero_mul] at this)
      rw [hsp, Addr.add_lit] at c0 c1
      rw [hat j hj]
      refine ⟨a.block, a.off, V1 j, by rw [← hsp], .inl hlt, ?_, ?_, (hF j (by omega)).1⟩
      · rw [c0, e0]; rfl
      · rw [Nat.add_assoc]; exact c1
    · obtain ⟨j, hj, rfl⟩ := List.getElem_of_mem hc
      rw [hat j hj]
      have hjn : j < n := by omega
      rcases (hF j hjn).2 with h0 | ⟨elems, spare, hd, hle⟩
      · exact .inl h0
      · refine .inr ⟨(elems.length + spare.length) * 8, ?_, by show (F j).length * 8 ≤ _; omega⟩
        have hd' := congrArg Prod.fst hdd
        simp only at hd'
        rw [hd']
        have hin : (elems.length + spare.length) * 8 ∈ DataW.weights Try.prog 53 (.agg [D0 j, D1 j]) := by
          simp only [DataW.weights, Try.underlying53, DataW.weightsEach, hd, Try.underlying51, List.map_cons, List.map_nil, bytes3]
          simp
        have hmem : DataW.agg [D0 j, D1 j] ∈ (List.range n).map fun i => DataW.agg [D0 i, D1 i] := List.mem_map.2 ⟨j, List.mem_range.2 hjn, rfl⟩
        have hall2 := weightsAll_mem (P := Try.prog) (e := 53) _ hmem hin
        rw [DataW.weights]
        simp only [Try.underlying22]
        exact List.mem_cons_of_mem _ (List.mem_append_left _ hall2)

/-- Acts that came in. -/
theorem acts_of {H : Type} {enc : TypeId × Value → H} {W : World} {base : Nat} {v : Value} {d : DataW H} {ps : List MemPlace} (hv : Value.okWide Try.prog W .any base 23 v)
    (h : DataW.Trod enc Try.prog W 0 (fun _ => true) true 23 v d ps) : ∃ L, ActsAt W v L := by
  obtain ⟨p, n, cap, rfl⟩ := okWide_slice Try.underlying23 hv
  obtain ⟨fuel, hf⟩ := h
  have hf' : DataW.trod enc Try.prog W 0 (fun _ => true) true fuel 23 [.slice p n cap] = some (d, ps) := by simpa [Value.cells] using hf
  rcases open_slice Try.underlying23 hf' with ⟨h0, _⟩ | ⟨a, len, cap', m, k, D, Pl, hcs, _, hl, hm, hmm, _, hall⟩
  · simp at h0
    obtain ⟨rfl, rfl, rfl⟩ := h0
    exact ⟨[], none, 0, rfl, fun j hj => absurd hj (by simp)⟩
  · simp at hcs
    obtain ⟨rfl, rfl, rfl⟩ := hcs
    simp only [if_true] at hmm
    subst hmm
    have key : ∀ i, ∃ x : Av, i < n → W.cell? (a.add (i * 3)) = some (.int .i64 x.what) ∧ W.cell? (a.add (i * 3 + 1)) = some (.int .i64 x.at_) ∧ W.cell? (a.add (i * 3 + 2)) = some (.string x.s) := by
      intro i
      by_cases hi : i < n
      · obtain ⟨cs', h1, h2⟩ := hall i (by omega)
        rw [cells39] at h1
        obtain ⟨_, hlen, hcell⟩ := World.cells?_some h1
        obtain ⟨xs, k', _, hxy, _, hxl, hf⟩ := DataW.trod_struct Try.underlying39 h2
        match cs', hlen, xs, hxl with
        | [v0, v1, v2], _, [y0, y1, y2], _ =>
          have g0 := hf 0 _ rfl
          have g1 := hf 1 _ rfl
          have g2 := hf 2 _ rfl
          simp [cells3, cells9] at g0 g1 g2
          obtain ⟨z0, e0, _, _⟩ := DataW.trod_int Try.underlying3 g0
          obtain ⟨z1, e1, _, _⟩ := DataW.trod_int Try.underlying3 g1
          obtain ⟨s2, e2, _, _⟩ := DataW.trod_string Try.underlying9 g2
          simp only [List.cons.injEq, and_true] at e0 e1 e2
          subst e0 e1 e2
          have q0 := hcell 0 (by omega)
          have q1 := hcell 1 (by omega)
          have q2 := hcell 2 (by omega)
          rw [add_add] at q0 q1 q2
          exact ⟨⟨z0, z1, s2⟩, fun _ => ⟨by simpa using q0, by simpa using q1, by simpa using q2⟩⟩
      · exact ⟨⟨0, 0, ⟨#[]⟩⟩, fun e => absurd e hi⟩
    obtain ⟨X, hX⟩ := Classical.axiomOfChoice key
    obtain ⟨L, hL0⟩ : ∃ L : List Av, L = (List.range n).map X := ⟨_, rfl⟩
    have hll : L.length = n := by rw [hL0]; simp
    have hat : ∀ j (hj : j < L.length), L[j] = X j := by
      intro j hj
      subst hL0
      simp
    refine ⟨L, some a, m, by rw [hll], fun j hj => ?_⟩
    obtain ⟨c0, c1, c2⟩ := hX j (by omega)
    obtain ⟨hsp, hlt⟩ := no_spot (by have := (hX 0 (by omega)).1; rwa [Nat.zero_mul] at this)
    rw [hsp, Addr.add_lit] at c0 c1 c2
    rw [hat j hj]
    exact ⟨a.block, a.off, by rw [← hsp], hlt, c0, by rw [Nat.add_assoc]; exact c1, by rw [Nat.add_assoc]; exact c2⟩
end Go.Proofs.Ytfnfdngenohhhaa
