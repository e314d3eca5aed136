/- What the law's walk needs: a disk and the reference's disk beside one another in memory. Conditions: none. -/
import Derived.Test.YtfnfdngenohhhaaWalkAC
namespace Go.Proofs.Ytfnfdngenohhhaa
open Go.ChangeShapes Go.WideShapes Go.ChangeAt Go.RowKit

theorem FatesAt.og {B : Nat} {w w' : World} {v : Value} {l : List Int} (h : FatesAt B w v l) (k : Og B w w') : FatesAt B w' v l := by
  obtain ⟨p, c, hv, hc⟩ := h.out
  refine ⟨p, c, hv, fun j hj => ?_⟩
  obtain ⟨b, off, hp, hs, hx⟩ := hc j hj
  have hs' : Sr B w b := hs
  exact ⟨b, off, hp, (k.sr hs').1, (k.srCell hs' _).trans hx⟩
theorem CutsAt.og {B : Nat} {w w' : World} {v : Value} {l : List Ct} (h : CutsAt B w v l) (k : Og B w w') : CutsAt B w' v l := by
  obtain ⟨p, c, hv, h1, h2, hc⟩ := h.out
  refine ⟨p, c, hv, h1, h2, fun j hj => ?_⟩
  obtain ⟨b, off, vf, hp, hs, hx, hy, hf⟩ := hc j hj
  have hs' : Sr B w b := hs
  exact ⟨b, off, vf, hp, (k.sr hs').1, (k.srCell hs' _).trans hx, (k.srCell hs' _).trans hy, hf.og k⟩
theorem FatesAt.r {B : Nat} {w : World} {v : Value} {l : List Int} (h : FatesAt B w v l) : FatesR B w v l := ⟨h.out⟩

theorem own_far {W W' : World} {base e size : Nat} {v : Value} {n : Nat} {xs : List Value} (h : W.ownsRow base e size v n xs) (hb : ∀ (g : Nat) (cur : Array Value), W.heap[g]? = some (Obj.cells cur e) → W'.heap[g]? = W.heap[g]?) : W'.ownsRow base e size v n xs := by
  refine ⟨h.1, ?_⟩
  rcases h.2 with k | ⟨g, cap, cur, h1, h2, h3, h4⟩
  · exact .inl k
  · exact .inr ⟨g, cap, cur, h1, h2, (hb g cur h3).trans h3, h4⟩

/-- A disk stays where only a block of the reference's disks turns. -/
theorem DiskAt.one33 {B : Nat} {W W' : World} {b g c : Nat} {d : Dk} {cs : Array Value} {fr : Nat × Nat} (h : DiskAt B W b g d) (hc : W.heap[c]? = some (.cells cs 33 fr)) (hb : Below 0 W W') (ho : ∀ k, k ≠ c → W'.heap[k]? = W.heap[k]?) : DiskAt B W' b g d := by
  obtain ⟨vw, vc, k⟩ := h.out
  have n1 : b ≠ c := ne_types k.blk hc (by decide)
  obtain ⟨cur, hg, _⟩ := k.secs.out
  exact ⟨vw, vc, (ho b n1).trans k.blk, k.secs.block (ho g (ne_types hg hc (by decide))), own_far k.waits (fun x cur hx => ho x (ne_types hx hc (by decide))), k.cuts.og (Og.one hc hb ho), k.leb, k.leg⟩

theorem calm33 : Calm 33 := by unfold Calm; decide
theorem calm39 : Calm 39 := by unfold Calm; decide

theorem QB.on {B : Nat} {W W' : World} {c : Nat} {q : R} (h : QB B W c q) (k : On B W W') : QB B W' c q := by
  obtain ⟨a, b', c', d, h1, h2⟩ := h.out
  exact ⟨a, b', c', d, k.rows c _ 33 _ h1 calm33, h2.on k⟩

theorem QB.facts {B : Nat} {V : World} {c : Nat} {q1 : R} (h : QB B V c q1) : ∃ pS cS pT cT pW cW pC cC,
    V.heap[c]? = some (.cells #[.slice pS q1.S.length cS, .slice pT q1.torn.length cT, .slice pW q1.wait.length cW, .slice pC q1.cuts.length cC, .int .i64 (q1.acts : Nat), .int .i64 (q1.all : Nat), .int .i64 (q1.fails : Nat), .bool q1.dead] 33) ∧
    RVal B V (.agg #[.slice pS q1.S.length cS, .slice pT q1.torn.length cT, .slice pW q1.wait.length cW, .slice pC q1.cuts.length cC, .int .i64 (q1.acts : Nat), .int .i64 (q1.all : Nat), .int .i64 (q1.fails : Nat), .bool q1.dead]) q1 := by
  obtain ⟨a, b, c', d, h1, hr⟩ := h.out
  obtain ⟨pS, cS, pT, cT, pW, cW, pC, cC, rfl, rfl, rfl, rfl⟩ := hr.slices
  exact ⟨pS, cS, pT, cT, pW, cW, pC, cC, h1, _, _, _, _, rfl, hr⟩

/-- Another disk of the reference's is stored. -/
theorem QB.store {B : Nat} {W : World} {c : Nat} {q1 q2 : R} (h : QB B W c q1) (hBc : B ≤ c) {vS vT vW vC : Value} (hr : RAt B W vS vT vW vC q2) :
    QB B ((((((((W.setCell ⟨c, 0, none⟩ vS).setCell ⟨c, 1, none⟩ vT).setCell ⟨c, 2, none⟩ vW).setCell ⟨c, 3, none⟩ vC).setCell ⟨c, 4, none⟩ (.int .i64 (q2.acts : Nat))).setCell ⟨c, 5, none⟩ (.int .i64 (q2.all : Nat))).setCell ⟨c, 6, none⟩ (.int .i64 (q2.fails : Nat))).setCell ⟨c, 7, none⟩ (.bool q2.dead)) c q2 ∧ ∀ {b g : Nat} {d : Dk}, DiskAt B W b g d → DiskAt B ((((((((W.setCell ⟨c, 0, none⟩ vS).setCell ⟨c, 1, none⟩ vT).setCell ⟨c, 2, none⟩ vW).setCell ⟨c, 3, none⟩ vC).setCell ⟨c, 4, none⟩ (.int .i64 (q2.acts : Nat))).setCell ⟨c, 5, none⟩ (.int .i64 (q2.all : Nat))).setCell ⟨c, 6, none⟩ (.int .i64 (q2.fails : Nat))).setCell ⟨c, 7, none⟩ (.bool q2.dead)) b g d := by
  obtain ⟨a, b, c', d, h1, _⟩ := h.out
  obtain ⟨_, _, _, _, _, _, _, _, hfin⟩ := ready8 h1 vS vT vW vC (.int .i64 (q2.acts : Nat)) (.int .i64 (q2.all : Nat)) (.int .i64 (q2.fails : Nat)) (.bool q2.dead)
  have og := eight_og h1 hBc vS vT vW vC (.int .i64 (q2.acts : Nat)) (.int .i64 (q2.all : Nat)) (.int .i64 (q2.fails : Nat)) (.bool q2.dead)
  exact ⟨⟨vS, vT, vW, vC, hfin, hr.og og⟩, fun hd => hd.one33 h1 (og.below.mono (Nat.zero_le _)) (fun k hk => eight_other W hk _ _ _ _ _ _ _ _)⟩

theorem ract_len (q : R) : q.act.1.S.length = q.S.length := by
  unfold R.act
  split
  · rfl
  · split
    · rfl
    · exact (rsettled_len q.begin q.begin.wait _ _).1
theorem rgood_len (q : R) : q.good.S.length = q.S.length := (rsettled_len q q.wait _ _).1
theorem rread_len (q : R) (n : Int) : (q.read n).1.S.length = q.S.length := by
  unfold R.read
  split
  · rfl
  · split
    · rfl
    · split <;> exact ract_len q
theorem rwrite_len (q : R) (n : Int) (s : ByteArray) : (q.write n s).1.S.length = q.S.length := by
  unfold R.write
  split
  · rfl
  · split
    · rfl
    · split
      · rfl
      · exact ract_len _
theorem rflush_len (q : R) : q.flush.1.S.length = q.S.length := by
  unfold R.flush
  split
  · rfl
  · split
    · exact ract_len q
    · exact (rgood_len _).trans (ract_len q)
theorem rup_len (q : R) : q.up.S.length = q.S.length := by unfold R.up; split <;> rfl

theorem rok_of {k : Nat} {d : Dk} {q : R} (s : Sim 0 d q) (o : Ok k d) (hk : k ≤ 100) (hn : q.S.length ≤ 1000) : Rok q ∧ q.wait.length ≤ 900 := by
  have h1 := s.count
  have h2 := s.all
  have h3 := s.acts
  have h4 := s.fails
  have h5 := o.acts
  have h6 := o.since
  have h7 := o.fails
  refine ⟨⟨by rw [s.lenT, s.len], hn, fun x hx => by rw [s.len]; exact s.bound x hx, by omega, by omega, by omega, by omega⟩, by omega⟩

/-- Both disks, so many acts on. -/
structure PL (w : World) (k b g c : Nat) (wx : World) : Prop where
  out : ∃ d q, DiskAt w.heap.size wx b g d ∧ QB w.heap.size wx c q ∧ Sim 0 d q ∧ Ok k d ∧ q.S.length ≤ 1000
  k : Kept w wx
  hc : w.heap.size ≤ c

theorem Kept.onto {w a b : World} (h : Kept w a) (o : On w.heap.size a b) : Kept w b := ⟨h.out.trans o.below⟩
end Go.Proofs.Ytfnfdngenohhhaa
