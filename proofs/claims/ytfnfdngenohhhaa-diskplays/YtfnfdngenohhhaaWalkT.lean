/- The walk of the reference's act, with a cut or without one. Conditions: Rok (sectors that there are, numbers below 100000). -/
import Derived.Test.YtfnfdngenohhhaaWalkR
import Derived.Test.YtfnfdngenohhhaaWalkS
namespace Go.Proofs.Ytfnfdngenohhhaa
open Go.ChangeShapes Go.WideShapes Go.ChangeAt Go.RowKit

theorem rsettle {B : Nat} {w : World} {v : Value} {q : R} (h : RVal B w v q) (hB : B ≤ w.heap.size) (x : Wr) (hx : x.sec < q.S.length) (hT : q.torn.length = q.S.length) (hn : q.S.length ≤ 1000) (f : Nat) (hf : f ≤ 2) :
    Calls Try.prog 31 #[v, x.val, .int .i64 (f : Nat)] w fun e w' => ∃ v', e = .returned v' ∧ RVal B w' v' (q.settle x f) ∧ Kept w w' := by
  by_cases h0 : f = 0
  · subst h0
    exact rsettle0 h hB x
  · exact rsettle1 h hB x hx hT hn f (by omega)

/-- The reference's disk in a block. -/
structure QB (B : Nat) (W : World) (b : Nat) (q : R) : Prop where
  out : ∃ vS vT vW vC, W.heap[b]? = some (.cells (q.cells vS vT vW vC) 33) ∧ RAt B W vS vT vW vC q

theorem QB.og {B : Nat} {W W' : World} {b : Nat} {q : R} (h : QB B W b q) (k : Og B W W') (hb : W'.heap[b]? = W.heap[b]?) : QB B W' b q := by
  obtain ⟨a, b', c, d, h1, h2⟩ := h.out
  exact ⟨a, b', c, d, hb.trans h1, h2.og k⟩
theorem QB.kept {B : Nat} {W W' : World} {b : Nat} {q : R} (h : QB B W b q) (k : Kept W W') (hB : B ≤ W.heap.size) : QB B W' b q := by
  obtain ⟨a, b', c, d, h1, h2⟩ := h.out
  exact ⟨a, b', c, d, k.block h1, h2.og (k.og hB)⟩

/-- Eight cells of nought. -/
abbrev Z8 : Array Value := #[.slice none 0 0, .slice none 0 0, .slice none 0 0, .slice none 0 0, .int .i64 0, .int .i64 0, .int .i64 0, .bool false]

/-- While the reference's act settles what waits. -/
structure AM (B : Nat) (w : World) (q1 : R) (c : Ct) (vf : Value) (wx : World) : Prop where
  qb : QB B wx w.heap.size q1
  z : wx.heap[w.heap.size + 1]? = some (.cells Z8 33)
  cb : wx.heap[w.heap.size + 1 + 1]? = some (.cells #[.int .i64 c.at_, vf] 65)
  f : FatesR B wx vf c.fates
  k : Kept w wx

theorem calm65 : Calm 65 ∧ (65 : TypeId) ≠ 33 := by unfold Calm; decide

theorem AM.kept {B : Nat} {w wx wy : World} {q1 : R} {c : Ct} {vf : Value} (h : AM B w q1 c vf wx) (k : Kept wx wy) (hB : B ≤ w.heap.size) : AM B w q1 c vf wy :=
  ⟨h.qb.kept k (Nat.le_trans hB h.k.size), k.block h.z, k.block h.cb, h.f.og (k.og (Nat.le_trans hB h.k.size)), h.k.trans k⟩

theorem eight_og {B : Nat} {V : World} {b : Nat} {cs : Array Value} (hg : V.heap[b]? = some (.cells cs 33)) (hB : B ≤ b) (v0 v1 v2 v3 v4 v5 v6 v7 : Value) : Og B V ((((((((V.setCell ⟨b, 0, none⟩ v0).setCell ⟨b, 1, none⟩ v1).setCell ⟨b, 2, none⟩ v2).setCell ⟨b, 3, none⟩ v3).setCell ⟨b, 4, none⟩ v4).setCell ⟨b, 5, none⟩ v5).setCell ⟨b, 6, none⟩ v6).setCell ⟨b, 7, none⟩ v7) :=
  Og.one hg ((((((((((Below.refl B V).setCell hB _).setCell hB _).setCell hB _).setCell hB _).setCell hB _).setCell hB _).setCell hB _).setCell hB _)) (fun _ hk => eight_other V hk _ _ _ _ _ _ _ _)

/-- Another disk is stored. -/
theorem AM.store {B : Nat} {w V : World} {q1 q2 : R} {c : Ct} {vf : Value} (h : AM B w q1 c vf V) (hB : B ≤ w.heap.size) {vS vT vW vC : Value} (hr : RAt B V vS vT vW vC q2) :
    AM B w q2 c vf ((((((((V.setCell ⟨w.heap.size, 0, none⟩ vS).setCell ⟨w.heap.size, 1, none⟩ vT).setCell ⟨w.heap.size, 2, none⟩ vW).setCell ⟨w.heap.size, 3, none⟩ vC).setCell ⟨w.heap.size, 4, none⟩ (.int .i64 (q2.acts : Nat))).setCell ⟨w.heap.size, 5, none⟩ (.int .i64 (q2.all : Nat))).setCell ⟨w.heap.size, 6, none⟩ (.int .i64 (q2.fails : Nat))).setCell ⟨w.heap.size, 7, none⟩ (.bool q2.dead)) := by
  obtain ⟨a, b, c', d, h1, _⟩ := h.qb.out
  obtain ⟨_, _, _, _, _, _, _, _, hfin⟩ := ready8 h1 vS vT vW vC (.int .i64 (q2.acts : Nat)) (.int .i64 (q2.all : Nat)) (.int .i64 (q2.fails : Nat)) (.bool q2.dead)
  have og := eight_og h1 hB vS vT vW vC (.int .i64 (q2.acts : Nat)) (.int .i64 (q2.all : Nat)) (.int .i64 (q2.fails : Nat)) (.bool q2.dead)
  refine ⟨⟨vS, vT, vW, vC, hfin, hr.og og⟩, ?_, ?_, h.f.og og, eight_kept h.k (Nat.le_refl _) _ _ _ _ _ _ _ _⟩
  · exact (eight_other V (by omega) _ _ _ _ _ _ _ _).trans h.z
  · exact (eight_other V (by omega) _ _ _ _ _ _ _ _).trans h.cb
end Go.Proofs.Ytfnfdngenohhhaa
