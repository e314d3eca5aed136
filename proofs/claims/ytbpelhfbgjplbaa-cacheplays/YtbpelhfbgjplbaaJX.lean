/- Texts that came in. Conditions: those that each row names. -/
import Derived.Test.YtbpelhfbgjplbaaJW
import Derived.SliceStrings
import Derived.ChangeSlices
import Derived.OpenShut
import Derived.ShutString
import Derived.SizedLaws
import Derived.Carry
namespace Go.Proofs.Ytbpelhfbgjplbaa.Ca
open Go.ChangeShapes Go.WideShapes Go.ChangeAt Go.RowKit
open N (Kept)
open Q (kept_cell Kv Vn Km m_get m_put m_del Own sc one_cellA one_str)
variable {E : Nat → Prop} {X : List En}

theorem laidOut : laidOutB Try.prog = true := by kernel_rfl
/-- Texts that came in. -/
structure Strs (W : World) (p : Option Addr) (n : Nat) where
  b : Nat
  o : Nat
  s : Nat → ByteArray
  max : n ≤ 9223372036854775807
  at_ : 0 < n → p = some ⟨b, o, none⟩
  c : ∀ j, j < n → W.cell? ⟨b, o + j, none⟩ = some (.string (s j))
theorem no_spot {W : World} {a : Addr} {v : Value} (h : W.cell? (a.add 0) = some v) : a = ⟨a.block, a.off, none⟩ := by
  obtain ⟨b, off, spot⟩ := a
  simp only [Addr.add, if_true] at h
  cases spot with
  | none => rfl
  | some q =>
    unfold World.cell? at h
    split at h
    · simp at h
    · cases h
theorem cells_str : Try.prog.cellsOf 9 = 1 := by kernel_rfl
set_option maxRecDepth 100000 in
theorem strs_of {H : Type} {enc : TypeId × Value → H} {W : World} {base : Nat} {v : Value} {d : DataW H} {ps : List MemPlace} (hv : Value.okWide Try.prog W .any base 24 v)
    (h : DataW.Trod enc Try.prog W 0 (fun _ => true) true 24 v d ps) : ∃ p n cap, v = .slice p n cap ∧ Nonempty (Strs W p n) := by
  obtain ⟨p, n, cap, rfl⟩ := okWide_slice Try.underlying24 hv
  refine ⟨p, n, cap, rfl, ?_⟩
  obtain ⟨fuel, hf⟩ := h
  have hf' : DataW.trod enc Try.prog W 0 (fun _ => true) true fuel 24 [.slice p n cap] = some (d, ps) := by simpa [Value.cells] using hf
  rcases open_strings Try.underlying24 Try.underlying9 cells_str hf' with ⟨h0, _⟩ | ⟨a, len, cap', ss, hcs, _, hl, hm, hz, _, hcell, _⟩
  · simp at h0
    obtain ⟨rfl, rfl, rfl⟩ := h0
    exact ⟨0, 0, fun _ => ⟨#[]⟩, by omega, fun h => absurd h (by omega), fun j hj => absurd hj (by omega)⟩
  · simp at hcs
    obtain ⟨rfl, rfl, rfl⟩ := hcs
    simp only [if_true] at hz
    have hmax : cap ≤ 9223372036854775807 := by unfold maxLen at hm; omega
    have hk : ∀ j, j < n → a = ⟨a.block, a.off, none⟩ ∧ W.cell? ⟨a.block, a.off + j, none⟩ = some (.string (ss.getD j ByteArray.empty)) := by
      intro j hj
      have c0 := hcell j (by omega)
      have hsp := no_spot (hcell 0 (by omega))
      rw [hsp, Addr.add_lit] at c0
      exact ⟨hsp, c0⟩
    exact ⟨a.block, a.off, fun j => ss.getD j ByteArray.empty, by omega, fun h => by rw [← (hk 0 h).1], fun j hj => (hk j hj).2⟩

theorem strs_in {H : Type} {enc : TypeId × Value → H} {W : World} {base : Nat} {v : Value} {d : DataW H} {ps : List MemPlace} (hv : Value.okWide Try.prog W .any base 24 v)
    (h : DataW.Trod enc Try.prog W 0 (fun _ => true) true 24 v d ps) : ∃ p n cap, ∃ _ : Unit, v = .slice p n cap ∧ Nonempty (Strs W p n) := by
  obtain ⟨p, n, cap, e, h⟩ := strs_of hv h
  exact ⟨p, n, cap, (), e, h⟩
/-- The keys that are held, as a row; while rests are gone over. -/
structure Go_ (w wx : World) (P m kb : Nat) (q : Cc) (es : List En) (n rr : Nat) (hp : Option Addr) (hn : Nat) : Prop where
  us : Us NE wx w.heap.size P m kb n q es (fun _ => none)
  z : q.x = 0
  r : q.r = (rr : Nat)
  cl : ∀ y ∈ es, y.d = false
  len : es.length = hn
  row : ∃ g off, (0 < hn → hp = some ⟨g, off, none⟩) ∧ ∀ j x, (es.map (·.k))[j]? = some x → wx.cell? ⟨g, off + j, none⟩ = some (.string x)
  low : Kept w wx
theorem Us.guard {w w' : World} {B p m kb n : Nat} {q : Cc} {es : List En} {F : ByteArray → Option ByteArray} (h : Us NE w B p m kb n q es F) (k : Kept w w') (E' : Nat → Prop) (hE : ∀ x, E' x → w.heap.size ≤ x ∧ x < w'.heap.size) : Us E' w' B p m kb n q es F := by
  obtain ⟨f, M, iv⟩ := h.cm
  exact ⟨⟨f, M.guard k E' hE, iv⟩, h.m', h.b', h.one, h.len, h.most, h.few⟩
theorem Us.free {w : World} {B p m kb n : Nat} {q : Cc} {es : List En} {F : ByteArray → Option ByteArray} (h : Us E w B p m kb n q es F) : Us NE w B p m kb n q es F := by
  obtain ⟨f, M, iv⟩ := h.cm
  exact ⟨⟨f, M.free, iv⟩, h.m', h.b', h.one, h.len, h.most, h.few⟩
/-- Behind a Get of the key: the row of those that are held is the new one. -/
theorem Go_.next {w wr w5 w6 w7 : World} {P m kb : Nat} {q q' : Cc} {es es1 : List En} {x : En} {n rr rr2 : Nat} {hp pp : Option Addr} {hn nn cc : Nat} {k : ByteArray} {E' : Nat → Prop} (h : Go_ w wr P m kb q es n rr hp hn) (k5 : Kept wr w5)
    (R : Rt w5 wr.heap.size pp nn cc (tk m (es.map (·.k)) k)) (hE : ∀ a, pp = some a → E' a.block) (fd : Fd E' w5 w6 w.heap.size P m n q q' es es1 x (fun _ => none) k) (u5 : Us E' w5 w.heap.size P m kb n q es (fun _ => none)) (hn2 : n + 1 ≤ 90000) (k7 : Kept w6 w7)
    (hr2 : rr2 = (if (es.map (·.k)).any (fun y => decide (y = k)) then rr else rr + 1)) (hrr : rr ≤ 1000) : ∃ n', n' ≤ n + 1 ∧ Go_ w w7 P m kb q' (es1 ++ [x]) n' rr2 pp nn := by
  obtain ⟨n', hn', u6⟩ := fd.us u5 hn2
  have hkl : (es1 ++ [x]).length = nn := by rw [← R.len, ← fd.keys, List.length_map]
  refine ⟨n', hn', ⟨(u6.kept k7).free, ?_, ?_, (fd.cl h.cl).1, hkl, ?_, ?_⟩⟩
  · rw [(fd.cl h.cl).2]; exact h.z
  · rw [fd.r, hr2, h.r]
    split
    · rfl
    · rw [IntKind.wrap_i64]; omega
  · rcases R.out with ⟨h1, h2⟩ | ⟨g, off, cur, h1, hB, hg, hs, hc⟩
    · have := R.le
      exact ⟨0, 0, fun h0 => (by omega), fun j y hy => by
        rw [fd.keys] at hy
        have := (List.getElem?_eq_some_iff.1 hy).1
        have := R.len
        omega⟩
    · refine ⟨g, off, fun _ => h1, fun j y hy => ?_⟩
      rw [fd.keys] at hy
      have hcl : Cl E' g (.cells cur 9) := by
        refine ⟨fun _ _ q => (by cases q), fun cs t fr q => ?_⟩
        injection q with _ q _
        subst q
        exact ⟨by decide, by decide, by decide, fun _ => hE _ h1⟩
      have hg7 := k7.block (fd.vc.oth g _ hg hcl)
      rw [cell_of_row w7 g _ _ _ _ hg7]
      exact hc j y hy
  · have hs : w.heap.size ≤ w5.heap.size := (h.low.trans k5).size
    exact (Vc.kept (E := E') (((Vc.of (h.low.trans k5) (Nat.le_refl _)).trans fd.vc).trans (Vc.of k7 (Nat.le_trans hs fd.vc.size))))
end Go.Proofs.Ytbpelhfbgjplbaa.Ca
