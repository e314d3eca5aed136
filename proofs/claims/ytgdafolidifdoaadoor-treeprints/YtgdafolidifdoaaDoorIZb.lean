/- What made makes: a program that grows, in memory. Conditions: each row's own. -/
import Derived.Test.YtgdafolidifdoaaDoorIZa
namespace Go.Proofs.YtgdafolidifdoaaDoor.Tp
open Go.ChangeShapes Go.WideShapes Go.ChangeAt Go.RowKit

/-- These blocks stay; of those of declarations these cells. -/
structure Dk (p : Nat → Prop) (L : Nat → Nat → Prop) (W W' : World) : Prop where
  out : ∀ (k : Nat) (cs : Array Value) (t : TypeId) (fz : Nat × Nat), p k → W.heap[k]? = some (.cells cs t fz) → ∃ cs', W'.heap[k]? = some (.cells cs' t fz) ∧ (t ≠ 44 → cs' = cs) ∧ ∀ j, L k j → cs'[j]? = cs[j]?
theorem Dk.step {p p' : Nat → Prop} {L L' : Nat → Nat → Prop} {a b c : World} (h : Dk p L a b) (k : Dk p' L' b c) (hp : ∀ k, k < a.heap.size → p k → p' k ∧ ∀ j, L k j → L' k j) : Dk p L a c := ⟨fun i cs t fz h0 h1 => by
  obtain ⟨q1, q2⟩ := hp i (Array.getElem?_eq_some_iff.1 h1).1 h0
  obtain ⟨c1, e1, e2, e3⟩ := h.out i cs t fz h0 h1
  obtain ⟨c2, f1, f2, f3⟩ := k.out i c1 t fz q1 e1
  exact ⟨c2, f1, fun ht => (f2 ht).trans (e2 ht), fun j hj => (f3 j (q2 j hj)).trans (e3 j hj)⟩⟩
theorem Kept.dk {W W' : World} (h : Kept W W') (p : Nat → Prop) (L : Nat → Nat → Prop) : Dk p L W W' := ⟨fun _ cs _ _ _ h1 => ⟨cs, h.block h1, fun _ => rfl, fun _ _ => rfl⟩⟩
theorem Dk.trans {p : Nat → Prop} {L : Nat → Nat → Prop} {a b c : World} (h : Dk p L a b) (k : Dk p L b c) : Dk p L a c := ⟨fun i cs t fz h0 h1 => by
  obtain ⟨c1, e1, e2, e3⟩ := h.out i cs t fz h0 h1
  obtain ⟨c2, f1, f2, f3⟩ := k.out i c1 t fz h0 e1
  exact ⟨c2, f1, fun ht => (f2 ht).trans (e2 ht), fun j hj => (f3 j hj).trans (e3 j hj)⟩⟩
theorem Dk.mono {p q : Nat → Prop} {L M : Nat → Nat → Prop} {W W' : World} (h : Dk p L W W') (hp : ∀ k, k < W.heap.size → q k → p k ∧ ∀ j, M k j → L k j) : Dk q M W W' := ⟨fun k cs t fz h0 h1 => by
  obtain ⟨a, b⟩ := hp k (Array.getElem?_eq_some_iff.1 h1).1 h0
  obtain ⟨c1, e1, e2, e3⟩ := h.out k cs t fz a h1
  exact ⟨c1, e1, e2, fun j hj => e3 j (b j hj)⟩⟩
theorem Dk.kp {p q : Nat → Prop} {L : Nat → Nat → Prop} {W W' : World} (h : Dk p L W W') (hp : ∀ k, k < W.heap.size → q k → p k) : Kp q W W' := ⟨fun k cs t fz h0 h1 h2 => by
  obtain ⟨c1, e1, e2, _⟩ := h.out k cs t fz (hp k (Array.getElem?_eq_some_iff.1 h1).1 h0) h1
  rw [e1, e2 h2]⟩
theorem Dk.set {p : Nat → Prop} {L : Nat → Nat → Prop} {W : World} {g j : Nat} (v : Value) (hg : ¬ p g) : Dk p L W (W.setCell ⟨g, j, none⟩ v) :=
  ⟨fun k cs _ _ h0 h1 => ⟨cs, (heap_setCell_other W ⟨g, j, none⟩ k v (fun e => hg (by have e' : k = g := e; rwa [← e']))).trans h1, fun _ => rfl, fun _ _ => rfl⟩⟩
theorem Ap.dk {p : Nat → Prop} {L : Nat → Nat → Prop} {W W' : World} {row : Option Nat} {m : Nat} (h : Ap W W' row m) (ht : ∀ k cs t fz, p k → some k = row → W.heap[k]? = some (.cells cs t fz) → t = 44) (hL : ∀ k j, p k → some k = row → L k j → j < m) : Dk p L W W' := ⟨fun k cs t fz h0 h1 => by
  by_cases hr : some k = row
  · obtain ⟨c1, e1, e2⟩ := h.own k cs t fz hr h1
    exact ⟨c1, e1, fun hn => absurd (ht k cs t fz h0 hr h1) hn, fun j hj => e2 j (hL k j h0 hr hj)⟩
  · exact ⟨cs, h.other h1 hr, fun _ => rfl, fun _ _ => rfl⟩⟩
/-- A row of declarations of one's own stays so far. -/
theorem dl_dk {p : Nat → Prop} {L : Nat → Nat → Prop} {W W' : World} {B : Nat} {q : Option Addr} {n c : Nat} {ds : List Dc} (h : W.ownsRow B 44 3 (.slice q n c) n (ds.flatMap dcc)) (hl : ds.length = n) (k : Dk p L W W') (hp : ∀ b, some b = q.map Addr.block → p b) (hL : ∀ b j, some b = q.map Addr.block → j < n * 3 → L b j) : Dl W' q n c ds := by
  rcases h.2 with ⟨h3, h4⟩ | ⟨g, cap, cur, h3, hB, hg, hn, hm, hs, ht⟩
  · injection h3 with h3 h5 h6
    exact ⟨hl, by omega, by rw [h6]; exact Nat.zero_le _, ⟨.inl h4⟩⟩
  · injection h3 with h3 _ h4
    subst h3
    subst h4
    obtain ⟨c1, e1, _, e3⟩ := k.out g cur _ _ (hp g rfl) hg
    refine ⟨hl, hn, hm, ⟨.inr ⟨g, 0, c1, _, _, rfl, e1, by decide, by decide, fun j x hx => ?_⟩⟩⟩
    rw [← ht, List.getElem?_take] at hx
    rw [Nat.zero_add]
    split at hx
    · rename_i hj
      rw [e3 j (hL g j rfl hj)]
      simpa using hx
    · cases hx
/-- Where declarations are settled. -/
def Lg (pg pf : Option Addr) (m k j : Nat) : Prop := (some k = pg.map Addr.block ∨ some k = pf.map Addr.block) → j < m * 3
/-- In the midst of a round: two rows of declarations. -/
structure Sy (w wr : World) (L : Nat → Nat → Prop) (pg0 pf0 : Option Addr) (A B C : Value) (d : Dc) (pg : Option Addr) (ng cg : Nat) (gs : List Dc) (pf : Option Addr) (nf cf : Nat) (fs : List Dc) (W : World) : Prop where
  rs : W.heap[w.heap.size]? = some (.cells #[.slice none 0 0, .slice none 0 0, .slice none 0 0] 26)
  tr : W.heap[w.heap.size + 1]? = some (.cells #[A, B, C] 26)
  dd : W.heap[wr.heap.size]? = some (.cells (dcc d).toArray 44)
  og : W.ownsRow (w.heap.size + 2) 44 3 (.slice pg ng cg) ng (gs.flatMap dcc)
  of : W.ownsRow (w.heap.size + 2) 44 3 (.slice pf nf cf) nf (fs.flatMap dcc)
  ne : ∀ k, some k = pg.map Addr.block → some k ≠ pf.map Addr.block
  dg : some wr.heap.size ≠ pg.map Addr.block
  df : some wr.heap.size ≠ pf.map Addr.block
  bg : ∀ k, k < wr.heap.size → some k = pg.map Addr.block → some k = pg0.map Addr.block
  bf : ∀ k, k < wr.heap.size → some k = pf.map Addr.block → some k = pf0.map Addr.block
  dk : Dk (fun k => w.heap.size + 2 ≤ k) L wr W
  low : Kept w W
  hT : w.heap.size + 2 ≤ wr.heap.size
theorem Sy.swap {w wr : World} {L : Nat → Nat → Prop} {pg0 pf0 : Option Addr} {A B C : Value} {d : Dc} {pg : Option Addr} {ng cg : Nat} {gs : List Dc} {pf : Option Addr} {nf cf : Nat} {fs : List Dc} {W : World} (h : Sy w wr L pg0 pf0 A B C d pg ng cg gs pf nf cf fs W) : Sy w wr L pf0 pg0 A B C d pf nf cf fs pg ng cg gs W :=
  ⟨h.rs, h.tr, h.dd, h.of, h.og, fun k h1 h2 => h.ne k h2 h1, h.df, h.dg, h.bf, h.bg, h.dk, h.low, h.hT⟩
theorem Sy.stay {w wr : World} {L : Nat → Nat → Prop} {pg0 pf0 : Option Addr} {A B C : Value} {d : Dc} {pg : Option Addr} {ng cg : Nat} {gs : List Dc} {pf : Option Addr} {nf cf : Nat} {fs : List Dc} {W W' : World} (h : Sy w wr L pg0 pf0 A B C d pg ng cg gs pf nf cf fs W) (k : Kept W W') : Sy w wr L pg0 pf0 A B C d pg ng cg gs pf nf cf fs W' :=
  ⟨k.block h.rs, k.block h.tr, k.block h.dd, own_kept h.og k, own_kept h.of k, h.ne, h.dg, h.df, h.bg, h.bf, h.dk.trans (k.dk _ _), h.low.trans k, h.hT⟩
theorem own_row {w : World} {B e sz n c : Nat} {p : Option Addr} {cs : List Value} (h : w.ownsRow B e sz (.slice p n c) n cs) {k : Nat} (hk : some k = p.map Addr.block) : B ≤ k ∧ k < w.heap.size ∧ ∃ cur, w.heap[k]? = some (.cells cur e (0, 0)) := by
  rcases h.2 with ⟨h3, h4⟩ | ⟨g, cap, cur, h3, hB, hg, hr⟩
  · injection h3 with h3
    subst h3
    cases hk
  · injection h3 with h3
    subst h3
    simp only [Option.map_some, Option.some.injEq] at hk
    subst hk
    exact ⟨hB, (Array.getElem?_eq_some_iff.1 hg).1, cur, hg⟩
theorem own_ap {W W1 : World} {B e sz n c : Nat} {p : Option Addr} {cs : List Value} {row : Option Nat} {m : Nat} (h : W.ownsRow B e sz (.slice p n c) n cs) (ap : Ap W W1 row m) (hne : ∀ k, some k = p.map Addr.block → some k ≠ row) : W1.ownsRow B e sz (.slice p n c) n cs :=
  h.kept ap.grown (by
    rw [ob_map]
    cases hp : p.map Addr.block with
    | none => exact .inl rfl
    | some j => exact .inr (hne j hp.symm))
/-- One declaration more in the first row. -/
theorem Sy.more {w wr : World} {L : Nat → Nat → Prop} {pg0 pf0 : Option Addr} {A B C : Value} {d : Dc} {pg : Option Addr} {ng cg : Nat} {gs : List Dc} {pf : Option Addr} {nf cf : Nat} {fs : List Dc} {W W1 : World} (h : Sy w wr L pg0 pf0 A B C d pg ng cg gs pf nf cf fs W)
    (hL : ∀ k j, some k = pg.map Addr.block → L k j → j < ng * 3) {g cap : Nat} (o : W1.ownsRow (w.heap.size + 2) 44 3 (.slice (some ⟨g, 0, none⟩) (ng + 1) cap) (ng + 1) (gs.flatMap dcc ++ dcc d)) (ap : Ap W W1 (pg.map Addr.block) (ng * 3)) (l : pg.map Addr.block = some g ∨ W.heap.size ≤ g) :
    Sy w wr L pg0 pf0 A B C d (some ⟨g, 0, none⟩) (ng + 1) cap (gs ++ [d]) pf nf cf fs W1 := by
  have hD := (Array.getElem?_eq_some_iff.1 h.dd).1
  have hT := h.hT
  have e1 : ∀ k, some k = (some (⟨g, 0, none⟩ : Addr)).map Addr.block → some k = pg.map Addr.block ∨ W.heap.size ≤ k := fun k hk => by
    simp only [Option.map_some, Option.some.injEq] at hk
    subst hk
    rcases l with l | l
    · exact .inl l.symm
    · exact .inr l
  refine ⟨ap.other h.rs (fun e => ?_), ap.other h.tr (fun e => ?_), ap.other h.dd h.dg, by rw [List.flatMap_append]; simpa using o, own_ap h.of ap (fun k h1 h2 => h.ne k h2 h1), fun k h1 h2 => ?_, fun e => ?_, h.df, fun k hk h1 => ?_, h.bf, ?_, ?_, h.hT⟩
  · have := (own_row h.og e).1
    omega
  · have := (own_row h.og e).1
    omega
  · rcases e1 k h1 with h3 | h3
    · exact h.ne k h3 h2
    · have := (own_row h.of h2).2.1
      omega
  · rcases e1 _ e with h3 | h3
    · exact h.dg h3
    · omega
  · rcases e1 k h1 with h3 | h3
    · exact h.bg k hk h3
    · omega
  · refine h.dk.trans (ap.dk (fun k cs t fz _ hr hc => ?_) (fun k j _ hr hj => hL k j hr hj))
    obtain ⟨_, _, cur, hcur⟩ := own_row h.og hr
    rw [hcur] at hc
    injection hc with hc
    injection hc with _ hc _
    exact hc.symm
  · exact ⟨h.low.out.grown ap.grown h.low.size (fun k hk => by have := (own_row h.og hk.symm).1; omega)⟩
/-- A program so far: so many declarations of each sort, so many functions. -/
structure Md (w : World) (m i : Nat) (pg : Option Addr) (cg : Nat) (gs : List Dc) (pf : Option Addr) (cf : Nat) (fs : List Dc) (pn : Option Addr) (cn : Nat) (fl : List Fc) (cs : List Value) (W : World) : Prop where
  lg : gs.length = m
  lf : fs.length = m
  ln : fl.length = i
  og : ∀ x ∈ gs, x.n.size ≤ 6 ∧ 0 ≤ x.t ∧ x.t ≤ 3
  of : ∀ x ∈ fs, x.n.size ≤ 6 ∧ 0 ≤ x.t ∧ x.t ≤ 3
  ol : ∀ f ∈ fl, Fok f ∧ (∀ d ∈ f.ps, I64 d.t) ∧ ∀ d ∈ f.vs, I64 d.t
  res : W.heap[w.heap.size]? = some (.cells #[.slice none 0 0, .slice none 0 0, .slice none 0 0] 26)
  tr : W.heap[w.heap.size + 1]? = some (.cells #[.slice pg m cg, .slice pf m cf, .slice pn i cn] 26)
  rg : W.ownsRow (w.heap.size + 2) 44 3 (.slice pg m cg) m (gs.flatMap dcc)
  rf : W.ownsRow (w.heap.size + 2) 44 3 (.slice pf m cf) m (fs.flatMap dcc)
  rn : W.ownsRow (w.heap.size + 2) 48 6 (.slice pn i cn) i cs
  ne : ∀ k, some k = pg.map Addr.block → some k ≠ pf.map Addr.block
  out : ∀ W', Dk (fun k => w.heap.size + 2 ≤ k ∧ some k ≠ pn.map Addr.block) (Lg pg pf m) W W' → Fr6 W' fl cs
  low : Kept w W
end Go.Proofs.YtgdafolidifdoaaDoor.Tp
