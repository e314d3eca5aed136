/- The walk of node.Set: of a key that was not there, and of one that was. Conditions: 99999 keys at most, as many values. -/
import Derived.Test.YtgcfollelefmcaaND
import Derived.Deep.RegionWith
namespace Go.Proofs.Ytgcfollelefmcaa
open Go.ChangeShapes Go.WideShapes Go.ChangeAt Go.RowKit

theorem ins_kcl (ks : List ByteArray) (i : Nat) (key : ByteArray) : (kcl ks).take i ++ Value.string key :: (kcl ks).drop i = kcl (ins ks i key) := by
  simp [kcl, ins]
theorem ins_vcl (vs : List Vl) (i : Nat) (v : Vl) : (vcl vs).take (i * 3) ++ v.cells ++ (vcl vs).drop (i * 3) = vcl (ins vs i v) := by
  rw [vcl_take, vcl_drop, ins, vcl_append, vcl_cons, List.append_assoc]

theorem Own.blk_ne {w : World} {B : Nat} {e : TypeId} {sz : Nat} {p : Option Addr} {n c : Nat} {cs : List Value} (k : Own w B e sz p n c cs) {b : Nat} (h : b < B ∨ w.heap.size ≤ b) : some b ≠ blk p := by
  rcases k.cases with ⟨rfl, _⟩ | ⟨g, cur, rfl, h1, h2, _⟩
  · simp [blk]
  · simp [blk]; omega
theorem Own.head_ne {w : World} {B : Nat} {e : TypeId} {sz : Nat} {p : Option Addr} {n c : Nat} {cs : List Value} (k : Own w B e sz p n c cs) {b : Nat} (h : w.heap.size ≤ b) : ∀ g, p = some ⟨g, 0, none⟩ → g ≠ b := by
  rintro g rfl rfl
  rcases k.cases with ⟨hx, _⟩ | ⟨g', cur, hx, h1, h2, _⟩
  · cases hx
  · injection hx with hx; injection hx with hx; omega
/-- A row of another type stays while one's own turns. -/
theorem Own.grown {w w' : World} {B B' : Nat} {e e' : TypeId} {sz sz' : Nat} {p q : Option Addr} {n c n' c' : Nat} {cs cs' : List Value} (k : Own w B e sz p n c cs) (o : Own w B' e' sz' q n' c' cs') (he : e ≠ e') (h : w.grownBy w' (blk q)) : Own w' B e sz p n c cs := by
  refine ⟨k.out.kept h ?_⟩
  rcases k.cases with ⟨rfl, _⟩ | ⟨g, cur, rfl, _, _, hg, _⟩
  · exact .inl rfl
  · refine .inr (fun hx => ?_)
    rcases o.cases with ⟨rfl, _⟩ | ⟨g', cur', rfl, _, _, hg', _⟩
    · cases hx
    · simp [blk, Value.ownBlock] at hx
      subst hx
      rw [hg] at hg'
      injection hg' with hg'
      injection hg' with _ hg'
      exact he hg'
theorem grown_from {w W W' : World} {B : Nat} {e : TypeId} {sz : Nat} {q : Option Addr} {n c : Nat} {cs : List Value} (hk : Kept w W) (o : Own W B e sz q n c cs) (hB : w.heap.size ≤ B) (h : W.grownBy W' (blk q)) : Kept w W' := by
  refine ⟨hk.out.grown h hk.size ?_⟩
  rcases o.cases with ⟨rfl, _⟩ | ⟨g, cur, rfl, h1, _⟩
  · intro k hx; cases hx
  · intro k hx; simp [blk] at hx; omega

theorem C4.own_ne {w : World} {b : Nat} {t : TypeId} {a0 a1 a2 a3 : Value} (k : C4 w b t a0 a1 a2 a3) {B : Nat} {e : TypeId} {sz : Nat} {p : Option Addr} {n c : Nat} {cs : List Value} (o : Own w B e sz p n c cs) (h : t ≠ e) : some b ≠ blk p := by
  rcases o.cases with ⟨rfl, _⟩ | ⟨g, cur, rfl, _, _, hg, _⟩
  · simp [blk]
  · intro hx
    simp [blk] at hx
    subst hx
    rw [k.out] at hg
    injection hg with hg
    injection hg with _ hg
    exact h hg
theorem Own.farT {w : World} {B : Nat} {e : TypeId} {sz : Nat} {p : Option Addr} {n c : Nat} {cs : List Value} (k : Own w B e sz p n c cs) (a : Addr) (v : Value) (h : some a.block ≠ blk p) : Own (w.setCell a v) B e sz p n c cs := by
  refine ⟨k.out.kept (grown_set w a v) ?_⟩
  cases p with
  | none => exact .inl rfl
  | some x => exact .inr (fun he => h (by simpa [blk, Value.ownBlock] using he.symm))

/-- While a leaf is changed: the world at the call, the world now; where the results will stand; the leaf's own rows. -/
structure SS (w W : World) (B0 r q b9 : Nat) (kp : Option Addr) (n kc : Nat) (KC : List Value) (vp : Option Addr) (m vc : Nat) (VC : List Value) : Prop where
  K : Kept w W
  R : C4 W r 27 (.bool false) (.slice none 0 0) (.slice none 0 0) (.slice none 0 0)
  Q : C3 W q 49 (.string ⟨#[]⟩) (.int .i64 0) (.int .i64 0)
  OK : Own W B0 9 1 kp n kc KC
  OV : Own W B0 49 3 vp m vc VC
  base : w.heap.size ≤ B0
  hr : r < B0
  hq : q < B0
  h9 : B0 ≤ b9
  wr : w.heap.size ≤ r
  wq : w.heap.size ≤ q

theorem SS.kept {w W W' : World} {B0 r q b9 : Nat} {kp : Option Addr} {n kc : Nat} {KC : List Value} {vp : Option Addr} {m vc : Nat} {VC : List Value} (s : SS w W B0 r q b9 kp n kc KC vp m vc VC) (k : Kept W W') : SS w W' B0 r q b9 kp n kc KC vp m vc VC :=
  ⟨s.K.trans k, s.R.kept k, s.Q.kept k, s.OK.kept k, s.OV.kept k, s.base, s.hr, s.hq, s.h9, s.wr, s.wq⟩
theorem SS.keys {w W W' : World} {B0 r q b9 : Nat} {kp : Option Addr} {n kc : Nat} {KC : List Value} {vp : Option Addr} {m vc : Nat} {VC : List Value} (s : SS w W B0 r q b9 kp n kc KC vp m vc VC) (g : W.grownBy W' (blk kp)) {kp' : Option Addr} {n' kc' : Nat} {KC' : List Value} (o : Own W' B0 9 1 kp' n' kc' KC') : SS w W' B0 r q b9 kp' n' kc' KC' vp m vc VC :=
  ⟨grown_from s.K s.OK s.base g, s.R.grown g (s.OK.blk_ne (.inl s.hr)), s.Q.grown g (s.OK.blk_ne (.inl s.hq)), o, s.OV.grown s.OK (by decide) g, s.base, s.hr, s.hq, s.h9, s.wr, s.wq⟩
theorem SS.valsG {w W W' : World} {B0 r q b9 : Nat} {kp : Option Addr} {n kc : Nat} {KC : List Value} {vp : Option Addr} {m vc : Nat} {VC : List Value} (s : SS w W B0 r q b9 kp n kc KC vp m vc VC) (g : W.grownBy W' (blk vp)) {vp' : Option Addr} {m' vc' : Nat} {VC' : List Value} (o : Own W' B0 49 3 vp' m' vc' VC') : SS w W' B0 r q b9 kp n kc KC vp' m' vc' VC' :=
  ⟨grown_from s.K s.OV s.base g, s.R.grown g (s.OV.blk_ne (.inl s.hr)), s.Q.grown g (s.OV.blk_ne (.inl s.hq)), s.OK.grown s.OV (by decide) g, o, s.base, s.hr, s.hq, s.h9, s.wr, s.wq⟩
theorem SS.vals {w W W' : World} {B0 r q b9 : Nat} {kp : Option Addr} {n kc : Nat} {KC : List Value} {vp : Option Addr} {m vc : Nat} {VC : List Value} (s : SS w W B0 r q b9 kp n kc KC vp m vc VC) (k : Kept W W') (h : B0 ≤ W.heap.size) {vp' : Option Addr} {m' vc' : Nat} {VC' : List Value} (o : Own W' W.heap.size 49 3 vp' m' vc' VC') : SS w W' B0 r q b9 kp n kc KC vp' m' vc' VC' :=
  have s' := s.kept k
  ⟨s'.K, s'.R, s'.Q, s'.OK, o.mono h, s.base, s.hr, s.hq, s.h9, s.wr, s.wq⟩
/-- A field of the leaf is stored. -/
theorem SS.store {w W : World} {B0 r q b9 : Nat} {kp : Option Addr} {n kc : Nat} {KC : List Value} {vp : Option Addr} {m vc : Nat} {VC : List Value} (s : SS w W B0 r q b9 kp n kc KC vp m vc VC) {a0 a1 a2 a3 : Value} (x : C4 W b9 27 a0 a1 a2 a3) (j : Nat) (v : Value) : SS w (W.setCell ⟨b9, j, none⟩ v) B0 r q b9 kp n kc KC vp m vc VC :=
  have h1 := s.hr
  have h2 := s.hq
  have h3 := s.h9
  have h4 := s.base
  ⟨s.K.set (show w.heap.size ≤ b9 by omega) v, s.R.far _ _ (show r ≠ b9 by omega), s.Q.far _ _ (show q ≠ b9 by omega), s.OK.farT _ _ (x.own_ne s.OK (by decide)), s.OV.farT _ _ (x.own_ne s.OV (by decide)), s.base, s.hr, s.hq, s.h9, s.wr, s.wq⟩
end Go.Proofs.Ytgcfollelefmcaa
