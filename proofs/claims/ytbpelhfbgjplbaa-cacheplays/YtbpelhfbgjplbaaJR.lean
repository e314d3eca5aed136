/- All that was changed is written, in plain words and in memory. Conditions: those that each row names. -/
import Derived.Test.YtbpelhfbgjplbaaJP
import Derived.Test.YtbpelhfbgjplbaaJQ
namespace Go.Proofs.Ytbpelhfbgjplbaa.Ca
open Go.ChangeShapes Go.WideShapes Go.ChangeAt Go.RowKit
open N (Kept)
open Q (kept_cell Kv Vn Km m_get m_put m_del Own sc)
variable {E : Nat → Prop} {X : List En}

/-- Nothing is kept apart. -/
def NE : Nat → Prop := fun _ => False
theorem CM.guard {w w' : World} {B p n : Nat} {q : Cc} {es : List En} {f : ByteArray → Option ByteArray} (h : CM NE X w B p q es n f) (k : Kept w w') (E' : Nat → Prop) (hE : ∀ x, E' x → w.heap.size ≤ x ∧ x < w'.heap.size) : CM E' X w' B p q es n f := by
  have h1 := h.kept k
  exact ⟨h1.cb, h1.hs, h1.hm, h1.cm, Q.Kv.guard h.kv k E' hE, h1.kn, h1.sz, h1.ne, h1.bd, h1.le, h1.base⟩
theorem CM.free {w : World} {B p n : Nat} {q : Cc} {es : List En} {f : ByteArray → Option ByteArray} (h : CM E X w B p q es n f) : CM NE X w B p q es n f :=
  ⟨h.cb, h.hs, h.hm, h.cm, Q.Kv.free h.kv, h.kn, h.sz, h.ne, h.bd, h.le, h.base⟩
theorem Vc.free {B : Nat} {w w' : World} (h : Vc E B w w') : Vc NE B w w' := ⟨h.low, fun k o e c => h.oth k o e ⟨c.1, fun cs t fr q => ⟨(c.2 cs t fr q).1, (c.2 cs t fr q).2.1, (c.2 cs t fr q).2.2.1, fun e9 => ((c.2 cs t fr q).2.2.2 e9).elim⟩⟩⟩

/-- One is written. -/
theorem Iv.done {A C : List En} {y : En} {f F : ByteArray → Option ByteArray} (h : Iv (A ++ y :: C) f F) (hn : Nk (A ++ y :: C)) : Iv (A ++ y.done :: C) (wrt f y) F := by
  have hy := h.on y (by simp)
  have ht := (Nk.perm hn (perm_head A C y)).tail.1
  refine ⟨fun x hx => ?_, fun k hk => ?_⟩
  · rcases List.mem_append.1 hx with hx | hx
    · have := h.on x (by simp [hx])
      exact ⟨this.1, fun hd => by rw [wrt_ne f (ht x (by simp [hx]))]; exact this.2.1 hd, this.2.2⟩
    · rcases List.mem_cons.1 hx with rfl | hx
      · exact ⟨hy.1, fun _ => by show wrt f y y.k = F y.k; rw [wrt_at, hy.1], hy.2.2⟩
      · have := h.on x (by simp [hx])
        exact ⟨this.1, fun hd => by rw [wrt_ne f (ht x (by simp [hx]))]; exact this.2.1 hd, this.2.2⟩
  · have e : k ≠ y.k := fun e => hk y.done (by simp) e.symm
    rw [wrt_ne f e]
    refine h.off k fun x hx => ?_
    rcases List.mem_append.1 hx with hx | hx
    · exact hk x (by simp [hx])
    · rcases List.mem_cons.1 hx with rfl | hx
      · exact fun e2 => e e2.symm
      · exact hk x (by simp [hx])
theorem done_cmap {A C : List En} {y : En} (hn : Nk (A ++ y :: C)) (k : ByteArray) : cmap (A ++ y.done :: C) k = if k = y.k then none else cmap (A ++ y :: C) k := by
  have hp1 := perm_head A C y
  have hp2 := perm_head A C y.done
  have hnk : Nk (y :: (A ++ C)) := Nk.perm hn hp1
  have hnky : Nk (y.done :: (A ++ C)) := by
    unfold Nk at hnk ⊢
    exact hnk
  rw [← cmap_perm (Nk.perm hnky hp2.symm) hp2, wr_cmap (y := y.done) hnk rfl rfl]
  unfold delM
  rw [cmap_perm hn hp1]
/-- When none is to be written all is below. -/
theorem Iv.all {es : List En} {f F : ByteArray → Option ByteArray} (h : Iv es f F) (hc : ∀ k, cmap es k = none) : f = F := by
  funext k
  by_cases hk : ∀ x ∈ es, x.k ≠ k
  · exact h.off k hk
  · have : ∃ x ∈ es, x.k = k := by
      refine Classical.byContradiction fun hne => hk fun x hx e => hne ⟨x, hx, e⟩
    obtain ⟨x, hx, rfl⟩ := this
    exact (h.on x hx).2.1 (cmap_none.1 (hc x.k) x hx rfl)

/-- The keys that were gone over: those that the map has and that are no more to come. -/
structure Coll (D : DataW Unit) (left : Lit → Bool) (l : List ByteArray) : Prop where
  nd : l.Nodup
  mem : ∀ x, x ∈ l ↔ (Maps.has D (kl x) = true ∧ left (kl x) = false)
theorem Coll.start (D : DataW Unit) : Coll D (Maps.has D) [] := ⟨List.nodup_nil, fun x => by cases Maps.has D (kl x) <;> simp⟩
theorem Coll.step {D : DataW Unit} {left : Lit → Bool} {l : List ByteArray} (h : Coll D left l) {x : ByteArray} {y : DataW Unit} (hlk : left (kl x) = true) (hat : ∀ zd, D.atKey (kl x) zd = y) : Coll D (fun z => left z && !z.sameKey (kl x)) (l ++ [x]) := by
  have hhas : Maps.has D (kl x) = true := Maps.has_true_of_atKey hat
  have hnew : x ∉ l := fun hx => by have := ((h.mem x).1 hx).2; rw [hlk] at this; cases this
  refine ⟨List.nodup_append.2 ⟨h.nd, by simp, fun a ha b hb => by simp at hb; subst hb; exact fun e => hnew (e ▸ ha)⟩, fun y => ?_⟩
  by_cases hy : y = x
  · subst hy; simp [hhas, WideAt.sameKey_self (litk y)]
  · have e1 : (kl y).sameKey (kl x) = false := Maps.sameKey_ne (fun e => hy (kl_inj e))
    simp [h.mem y, hy, e1]
theorem owns_shape {w : World} {base e size : Nat} {v : Value} {n : Nat} {xs : List Value} (h : w.ownsRow base e size v n xs) : ∃ p cap, v = .slice p n cap := by
  rcases h.2 with ⟨rfl, rfl⟩ | ⟨g, cap, cur, rfl, _⟩
  · exact ⟨_, _, rfl⟩
  · exact ⟨_, _, rfl⟩

/-- The round of the loop over the keys: one more stands in the row. -/
structure Sr (w wx : World) (mc r N : Nat) (D : DataW Unit) (left : Lit → Bool) (cnt mm qc : Nat) (qq : Option Addr) (l : List ByteArray) : Prop where
  rg : wx.ranges Try.prog 9 Rp mc r N D left cnt
  few : mm + cnt ≤ N
  own : Own wx w.heap.size qq mm qc l
  col : Coll D left l
  low : Kept w wx
theorem keptBy {w a b : World} {row : Option Nat} (h : Kept w a) (g : a.grownBy b row) (hr : ∀ k, row = some k → w.heap.size ≤ k) : Kept w b := ⟨h.out.grown g h.size hr⟩
theorem Sr.own1 {w wx w1 : World} {mc r N : Nat} {D : DataW Unit} {left : Lit → Bool} {cnt mm qc : Nat} {qq : Option Addr} {l : List ByteArray} (h : Sr w wx mc r N D left cnt mm qc qq l) (hg1 : wx.grownBy w1 (some r)) : Own w1 w.heap.size qq mm qc l :=
  ⟨h.own.out.kept hg1 (by
    rcases h.own.out.2 with ⟨e1, e2⟩ | ⟨g, cap, cur, e1, hb, hg, _⟩
    · rw [e1]; exact .inl rfl
    · refine .inr ?_
      rw [e1]
      obtain ⟨_, _, _, _, _, _, _, _, _, hi, _⟩ := h.rg
      simp only [Value.ownBlock, ne_eq, Option.some.injEq]
      intro e
      rw [e, hi] at hg
      cases hg)⟩
theorem Sr.step {w wx w1 w5 : World} {mc r N : Nat} {D : DataW Unit} {left : Lit → Bool} {cnt cnt1 mm qc : Nat} {qq : Option Addr} {l : List ByteArray} {x : ByteArray} {y : DataW Unit} {v' : Value} (h : Sr w wx mc r N D left cnt mm qc qq l) (hr : w.heap.size ≤ r) (hmc : mc < w.heap.size)
    (hlk : left (kl x) = true) (hat : ∀ zd, D.atKey (kl x) zd = y) (hrg1 : w1.ranges Try.prog 9 Rp mc r N D (fun z => left z && !z.sameKey (kl x)) cnt1) (hlt : cnt1 < cnt) (hg1 : wx.grownBy w1 (some r))
    (own5 : w5.ownsRow w.heap.size 9 1 v' (mm + 1) (sc l ++ [.string x])) (g5 : (w1.alloc (.cells #[.string x] 9)).grownBy w5 (Value.slice qq mm qc).ownBlock) :
    ∃ qq' qc', v' = .slice qq' (mm + 1) qc' ∧ Sr w w5 mc r N D (fun z => left z && !z.sameKey (kl x)) cnt1 (mm + 1) qc' qq' (l ++ [x]) := by
  obtain ⟨qq', qc', rfl⟩ := owns_shape own5
  have hrow : ∀ k, (Value.slice qq mm qc).ownBlock = some k → w.heap.size ≤ k := fun k hk => (h.own.out.lt k hk).1
  have o1 := h.own1 hg1
  refine ⟨qq', qc', rfl, ⟨(hrg1.alloc _).kept g5 ?_ ?_, by have := h.few; omega, ⟨by rw [Q.sc_append]; exact own5⟩, h.col.step hlk hat, ?_⟩⟩
  · intro e
    have := hrow mc e.symm
    omega
  · exact row_ne_iter o1.out hrg1
  · exact keptBy ((keptBy h.low hg1 (fun k hk => by injection hk with hk; omega)).alloc _) g5 hrow
end Go.Proofs.Ytbpelhfbgjplbaa.Ca
