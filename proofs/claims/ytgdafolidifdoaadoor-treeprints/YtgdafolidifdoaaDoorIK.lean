/- What came in, opened: the cells of an E; a list of them. No condition. -/
import Derived.Test.YtgdafolidifdoaaDoorIG
import Derived.OpenShut
import Derived.ShutString
import Derived.Lib.SmallJoins
import Derived.ChangeSlices
import Derived.Carry
import Derived.Deep.SlicePairs
namespace Go.Proofs.YtgdafolidifdoaaDoor.Tp
open Go.ChangeShapes Go.WideShapes Go.ChangeAt Go.RowKit Go.Deep

theorem laidOut : laidOutB Tryd.prog = true := by kernel_rfl
theorem cellsE : Tryd.prog.cellsOf 32 = 6 := by kernel_rfl
theorem cells9 : Tryd.prog.cellsOf 9 = 1 := by kernel_rfl
theorem cells3 : Tryd.prog.cellsOf 3 = 1 := by kernel_rfl
theorem cells2 : Tryd.prog.cellsOf 2 = 1 := by kernel_rfl
theorem i64_of {a : Int} (h : (Lit.int .i64 a).wf = true) : I64 a := by
  simp only [Lit.wf, IntKind.min, IntKind.max, IntKind.bits, IntKind.signed] at h
  unfold I64
  constructor <;> (simp at h; omega)
theorem ev_of {H : Type} {enc : TypeId × Value → H} {W : World} {fuel : Nat} {cs : List Value} {x : DataW H × List MemPlace} (h : DataW.trod enc Tryd.prog W 0 (fun _ => true) true fuel 32 cs = some x) (hlen : cs.length = 6) :
    ∃ e : Ev, cs = (ev e).toList ∧ Okv e := by
  obtain ⟨xs, k', _, hxy, _, hxl, hf⟩ := DataW.trod_struct Tryd.underlying32 h
  match cs, hlen, xs, hxl with
  | [v0, v1, v2, v3, v4, v5], _, [y0, y1, y2, y3, y4, y5], _ =>
    have g0 := hf 0 _ rfl
    have g1 := hf 1 _ rfl
    have g2 := hf 2 _ rfl
    have g3 := hf 3 _ rfl
    have g4 := hf 4 _ rfl
    have g5 := hf 5 _ rfl
    simp [cells3, cells9, cells2] at g0 g1 g2 g3 g4 g5
    obtain ⟨z0, e0, _, w0⟩ := DataW.trod_int Tryd.underlying3 g0
    obtain ⟨z1, e1, _, w1⟩ := DataW.trod_int Tryd.underlying3 g1
    obtain ⟨z2, e2, _, w2⟩ := DataW.trod_int Tryd.underlying2 g2
    obtain ⟨s3, e3, _, w3⟩ := DataW.trod_string Tryd.underlying9 g3
    obtain ⟨s4, e4, _, w4⟩ := DataW.trod_string Tryd.underlying9 g4
    obtain ⟨z5, e5, _, w5⟩ := DataW.trod_int Tryd.underlying3 g5
    simp only [List.cons.injEq, and_true] at e0 e1 e2 e3 e4 e5
    subst e0 e1 e2 e3 e4 e5
    exact ⟨⟨z0, z1, z2, s3, s4, z5⟩, rfl, ⟨i64_of w0, i64_of w1, i64_of w2, w3, w4⟩⟩
theorem e_of {H : Type} {enc : TypeId × Value → H} {W : World} {base : Nat} {v : Value} {d : DataW H} {ps : List MemPlace} (hv : Value.okWide Tryd.prog W .any base 32 v)
    (h : DataW.Trod enc Tryd.prog W 0 (fun _ => true) true 32 v d ps) : ∃ e : Ev, v = .agg (ev e) ∧ Okv e := by
  obtain ⟨cs, rfl, hsz⟩ := okWide_struct Tryd.underlying32 hv
  obtain ⟨fuel, hf⟩ := h
  have hf' : DataW.trod enc Tryd.prog W 0 (fun _ => true) true fuel 32 cs.toList = some (d, ps) := by simpa [Value.cells] using hf
  obtain ⟨e, he, ok⟩ := ev_of hf' (by rw [Array.length_toList, hsz, cellsE])
  exact ⟨e, congrArg Value.agg (Array.toList_inj.1 he), ok⟩

/-- E's in memory. -/
structure Es (w : World) (p : Option Addr) (n c : Nat) (l : List Ev) : Prop where
  len : l.length = n
  le : n ≤ c
  cap : c ≤ maxLen
  ok : ∀ (j : Nat) (e : Ev), l[j]? = some e → Okv e
  out : n = 0 ∨ ∃ b o, p = some ⟨b, o, none⟩ ∧ ∀ (j : Nat) (e : Ev), l[j]? = some e → ∀ (q : Nat) (v : Value), (ev e)[q]? = some v → w.cell? ⟨b, o + j * 6 + q, none⟩ = some v
theorem Es.kept {w w' : World} {p : Option Addr} {n c : Nat} {l : List Ev} (h : Es w p n c l) (k : Kept w w') : Es w' p n c l :=
  ⟨h.len, h.le, h.cap, h.ok, h.out.imp id fun ⟨b, o, e, f⟩ => ⟨b, o, e, fun j x hx q v hv => k.cell (f j x hx q v hv)⟩⟩
theorem add_add' (a : Addr) (j k : Nat) : (a.add j).add k = a.add (j + k) := by
  obtain ⟨b, off, spot⟩ := a
  by_cases hj : j = 0
  · subst hj; simp [Addr.add]
  · by_cases hk : k = 0
    · subst hk; simp [Addr.add]
    · simp [Addr.add, hj, hk, Nat.add_assoc]
theorem no_spot {W : World} {a : Addr} {v : Value} (h : W.cell? (a.add 0) = some v) : a = ⟨a.block, a.off, none⟩ := by
  have h1 := h
  obtain ⟨b, off, spot⟩ := a
  simp only [Addr.add, if_true] at h1
  cases spot with
  | none => rfl
  | some q =>
    unfold World.cell? at h1
    split at h1
    · simp at h1
    · cases h1

set_option maxRecDepth 100000 in
theorem es_of {H : Type} {enc : TypeId × Value → H} {W : World} {base : Nat} {v : Value} {d : DataW H} {ps : List MemPlace} (hv : Value.okWide Tryd.prog W .any base 22 v)
    (h : DataW.Trod enc Tryd.prog W 0 (fun _ => true) true 22 v d ps) : ∃ p n c l, v = .slice p n c ∧ Es W p n c l := by
  obtain ⟨p, n, cap, rfl⟩ := okWide_slice Tryd.underlying22 hv
  obtain ⟨fuel, hf⟩ := h
  have hf' : DataW.trod enc Tryd.prog W 0 (fun _ => true) true fuel 22 [.slice p n cap] = some (d, ps) := by simpa [Value.cells] using hf
  rcases open_slice Tryd.underlying22 hf' with ⟨h0, _⟩ | ⟨a, len, cap', m, k, D, Pl, hcs, _, hl, hm, hmm, _, hall⟩
  · simp at h0
    obtain ⟨rfl, rfl, rfl⟩ := h0
    exact ⟨none, 0, 0, [], rfl, ⟨rfl, Nat.le_refl _, Nat.zero_le _, fun j e he => by simp at he, .inl rfl⟩⟩
  · simp at hcs
    obtain ⟨rfl, rfl, rfl⟩ := hcs
    simp only [if_true] at hmm
    subst hmm
    have key : ∀ i, ∃ e : Ev, i < n → Okv e ∧ ∀ (q : Nat) (v : Value), (ev e)[q]? = some v → W.cell? (a.add (i * 6 + q)) = some v := by
      intro i
      by_cases hi : i < n
      · obtain ⟨cs', h1, h2⟩ := hall i (by omega)
        rw [cellsE] at h1
        obtain ⟨_, hlen, hcell⟩ := World.cells?_some h1
        obtain ⟨e, he, ok⟩ := ev_of h2 hlen
        refine ⟨e, fun _ => ⟨ok, fun q v hq => ?_⟩⟩
        have hq6 : q < 6 := (Array.getElem?_eq_some_iff.1 hq).1
        have h3 := hcell q (by omega)
        rw [add_add'] at h3
        rw [h3, he, Array.getElem?_toList]
        exact hq
      · exact ⟨⟨0, 0, 0, ⟨#[]⟩, ⟨#[]⟩, 0⟩, fun e => absurd e hi⟩
    obtain ⟨X, hX⟩ := Classical.axiomOfChoice key
    have hat : ∀ (j : Nat) (e : Ev), ((List.range n).map X)[j]? = some e → j < n ∧ e = X j := by
      intro j e he
      rw [List.getElem?_map, Option.map_eq_some_iff] at he
      obtain ⟨i, hi, rfl⟩ := he
      have hj : j < n := by have := (List.getElem?_eq_some_iff.1 hi).1; rwa [List.length_range] at this
      rw [List.getElem?_range hj] at hi
      injection hi with hi
      exact ⟨hj, by rw [hi]⟩
    refine ⟨some a, n, _, (List.range n).map X, rfl, ⟨by simp, hl, hm, fun j e he => ?_, ?_⟩⟩
    · obtain ⟨hj, rfl⟩ := hat j e he
      exact (hX j hj).1
    · rcases Nat.eq_zero_or_pos n with h0 | h0
      · exact .inl h0
      · have hsp := no_spot (by have := (hX 0 h0).2 0 (.int .i64 (X 0).k) rfl; rwa [Nat.zero_mul] at this)
        refine .inr ⟨a.block, a.off, by rw [← hsp], fun j e he q v hq => ?_⟩
        obtain ⟨hj, rfl⟩ := hat j e he
        have := (hX j hj).2 q v hq
        rw [hsp, Addr.add_lit] at this
        rw [Nat.add_assoc]
        exact this
end Go.Proofs.YtgdafolidifdoaaDoor.Tp
