/- A program in memory: what stays while a builder is written; statements, declarations, functions in memory. No condition. -/
import Derived.Test.YtgdafolidifdoaaDoorIM
import Derived.Test.YtgdafolidifdoaaDoorIDb
namespace Go.Proofs.YtgdafolidifdoaaDoor.Tp
open Go.ChangeShapes Go.WideShapes Go.ChangeAt Go.RowKit
open Go.Deep (BT)

/-- Blocks that are neither bytes nor a printer stay. -/
structure Ky (W W' : World) : Prop where
  out : ∀ (k : Nat) (cs : Array Value) (t : TypeId) (fz : Nat × Nat), W.heap[k]? = some (.cells cs t fz) → t ≠ 5 → t ≠ 54 → W'.heap[k]? = some (.cells cs t fz)
theorem Ky.refl (W : World) : Ky W W := ⟨fun _ _ _ _ h _ _ => h⟩
theorem Ky.trans {a b c : World} (h : Ky a b) (k : Ky b c) : Ky a c := ⟨fun i cs t fz h1 h2 h3 => k.out i cs t fz (h.out i cs t fz h1 h2 h3) h2 h3⟩
theorem Kept.ky {W W' : World} (h : Kept W W') : Ky W W' := ⟨fun _ _ _ _ h1 _ _ => h.block h1⟩
theorem Bl.ky {w W W' : World} {b : Nat} {acc : ByteArray} (h : Bl w b acc W) (k : Fr b W W') : Ky W W' := by
  have hb : ∃ cs, W.heap[b]? = some (.cells cs 54 (0, 0)) := by
    rcases h.out with ⟨_, v, hb, _⟩ | ⟨_, v, hb, _⟩
    · exact ⟨_, hb⟩
    · exact ⟨_, hb⟩
  obtain ⟨cs0, hb⟩ := hb
  refine ⟨fun i cs t fz h1 h2 h3 => k.row h1 (fun e => ?_) h2⟩
  subst e
  rw [h1] at hb
  injection hb with hb
  injection hb with _ hb _
  exact h3 hb

theorem Rw.stay {W W' : World} {p : Option Addr} {n : Nat} {cs : List Value} (h : Rw W p n cs) (k : Ky W W') : Rw W' p n cs :=
  ⟨h.out.imp id fun ⟨b, o, cur, t, fz, e, hg, h1, h2, f⟩ => ⟨b, o, cur, t, fz, e, k.out b cur t fz hg h1 h2, h1, h2, f⟩⟩
theorem Rw.at {W : World} {p : Option Addr} {n : Nat} {cs : List Value} (h : Rw W p n cs) (hn : 0 < n) : ∃ b o, p = some ⟨b, o, none⟩ ∧ ∀ (j : Nat) (v : Value), cs[j]? = some v → W.cell? ⟨b, o + j, none⟩ = some v := by
  rcases h.out with e | ⟨b, o, cur, t, fz, e, hg, _, _, f⟩
  · omega
  · exact ⟨b, o, e, fun j v hv => by rw [cell_of_row W b (o + j) _ _ _ hg]; exact f j v hv⟩
theorem rw_none (W : World) (p : Option Addr) (cs : List Value) : Rw W p 0 cs := ⟨.inl rfl⟩
theorem Ay.stay {W W' : World} {p : Option Addr} {n c : Nat} {l : List ByteArray} (h : Ay W p n c l) (k : Ky W W') : Ay W' p n c l := ⟨h.len, h.le, h.cap, h.rw_.stay k⟩

/-- An expression's cells, a statement's. -/
def xc (e : Ex) (p : Option Addr) (n c : Nat) : List Value := [.int .i64 e.k, .string e.a, .string e.b, .int .i64 e.op, .int .i64 e.n, .slice p n c]
def stc (k pos : Int) (to fd fr : ByteArray) (e : Ex) (pa : Option Addr) (na ca : Nat) (pb : Option Addr) (nb cb : Nat) (pe : Option Addr) (ne ce : Nat) : List Value :=
  [.int .i64 k, .int .i64 pos, .string to, .string fd, .string fr, .int .i64 e.k, .string e.a, .string e.b, .int .i64 e.op, .int .i64 e.n, .slice pa na ca, .slice pb nb cb, .slice pe ne ce]
/-- Statements' cells in memory. -/
def scB (W : World) : BT Lb → List Value → Prop
  | .node _ _ l (.node _ _ _ bo el) r, cs => ∃ (pa : Option Addr) (na ca : Nat) (pb : Option Addr) (nb cb : Nat) (pe : Option Addr) (ne ce : Nat) (cr : List Value), cs = stc l.k l.pos l.t l.fd l.fr l.e pa na ca pb nb cb pe ne ce ++ cr ∧ Ay W pa na ca l.e.args ∧
      (nb = lenB bo ∧ nb ≤ cb ∧ cb ≤ maxLen ∧ ∃ cs', scB W bo cs' ∧ Rw W pb nb cs') ∧ (ne = lenB el ∧ ne ≤ ce ∧ ce ≤ maxLen ∧ ∃ cs', scB W el cs' ∧ Rw W pe ne cs') ∧ scB W r cr
  | .node _ _ _ .nil _, _ => False
  | .nil, cs => cs = []
def Sc (W : World) (s : Sts) (cs : List Value) : Prop := scB W s.1 cs
theorem sc_nil (W : World) (cs : List Value) : Sc W .nil cs = (cs = []) := by
  show scB W _ cs = _
  rw [Sts.nil, scB]
theorem sc_one (W : World) (k pos : Int) (to fd fr : ByteArray) (e : Ex) (bo el r : Sts) (cs : List Value) : Sc W (.one k pos to fd fr e bo el r) cs = ∃ (pa : Option Addr) (na ca : Nat) (pb : Option Addr) (nb cb : Nat) (pe : Option Addr) (ne ce : Nat) (cr : List Value), cs = stc k pos to fd fr e pa na ca pb nb cb pe ne ce ++ cr ∧ Ay W pa na ca e.args ∧
      (nb = bo.len ∧ nb ≤ cb ∧ cb ≤ maxLen ∧ ∃ cs', Sc W bo cs' ∧ Rw W pb nb cs') ∧ (ne = el.len ∧ ne ≤ ce ∧ ce ≤ maxLen ∧ ∃ cs', Sc W el cs' ∧ Rw W pe ne cs') ∧ Sc W r cr := by
  show scB W _ cs = _
  rw [Sts.one, scB]; rfl
theorem Sc.stay {W W' : World} (k : Ky W W') (s : Sts) : ∀ cs : List Value, Sc W s cs → Sc W' s cs := by
  induction s using Sts.ind with
  | nil => intro cs h; rw [sc_nil] at *; exact h
  | one k' pos to fd fr e bo el r ihb ihe ihr =>
    intro cs h
    rw [sc_one] at *
    obtain ⟨pa, na, ca, pb, nb, cb, pe, ne, ce, cr, h1, h2, ⟨b1, b2, b3, cb', b4, b5⟩, ⟨e1, e2, e3, ce', e4, e5⟩, h3⟩ := h
    exact ⟨pa, na, ca, pb, nb, cb, pe, ne, ce, cr, h1, h2.stay k, ⟨b1, b2, b3, cb', ihb cb' b4, b5.stay k⟩, ⟨e1, e2, e3, ce', ihe ce' e4, e5.stay k⟩, ihr cr h3⟩
theorem Sc.app {W : World} (s : Sts) : ∀ (t : Sts) (cs ct : List Value), Sc W s cs → Sc W t ct → Sc W (s.app t) (cs ++ ct) := by
  induction s using Sts.ind with
  | nil =>
    intro t cs ct h k
    rw [sc_nil] at h
    subst h
    rw [Sts.nil_app]
    exact k
  | one k' pos to fd fr e bo el r ihb ihe ihr =>
    intro t cs ct h k
    rw [sc_one] at h
    obtain ⟨pa, na, ca, pb, nb, cb, pe, ne, ce, cr, h1, h2, hb, he, h3⟩ := h
    rw [Sts.app_one, sc_one]
    exact ⟨pa, na, ca, pb, nb, cb, pe, ne, ce, cr ++ ct, by rw [h1, List.append_assoc], h2, hb, he, ihr t cr ct h3 k⟩
theorem Sc.length {W : World} (s : Sts) : ∀ cs : List Value, Sc W s cs → cs.length = s.len * 13 := by
  induction s using Sts.ind with
  | nil =>
    intro cs h
    rw [sc_nil] at h
    subst h
    rfl
  | one k' pos to fd fr e bo el r ihb ihe ihr =>
    intro cs h
    rw [sc_one] at h
    obtain ⟨pa, na, ca, pb, nb, cb, pe, ne, ce, cr, h1, h2, hb, he, h3⟩ := h
    have := ihr cr h3
    rw [h1, List.length_append, this]
    simp only [stc, Sts.len_one, List.length_cons, List.length_nil]
    omega
structure Sl (W : World) (p : Option Addr) (n c : Nat) (s : Sts) : Prop where
  len : n = s.len
  le : n ≤ c
  cap : c ≤ maxLen
  out : ∃ cs, Sc W s cs ∧ Rw W p n cs
theorem Sl.stay {W W' : World} {p : Option Addr} {n c : Nat} {s : Sts} (h : Sl W p n c s) (k : Ky W W') : Sl W' p n c s :=
  ⟨h.len, h.le, h.cap, h.out.imp fun cs ⟨h1, h2⟩ => ⟨Sc.stay k s cs h1, h2.stay k⟩⟩
theorem sl_nil (W : World) (p : Option Addr) (c : Nat) (hc : c ≤ maxLen) : Sl W p 0 c .nil := ⟨rfl, Nat.zero_le _, hc, [], by rw [sc_nil], rw_none W p []⟩

/-- Where the k-th of rows of cells stands. -/
theorem flat_at {α : Type} (f : α → List Value) (m : Nat) (hm : ∀ x, (f x).length = m) : ∀ (l : List α) (j : Nat) (x : α), l[j]? = some x → ∀ q, q < m → (l.flatMap f)[j * m + q]? = (f x)[q]?
  | [], j, x, h, _, _ => by simp at h
  | y :: r, 0, x, h, q, hq => by
    simp at h
    subst h
    rw [List.flatMap_cons, Nat.zero_mul, Nat.zero_add, List.getElem?_append_left (by rw [hm]; exact hq)]
  | y :: r, j + 1, x, h, q, hq => by
    rw [List.flatMap_cons, List.getElem?_append_right (by rw [hm, Nat.succ_mul]; omega), hm, show (j + 1) * m + q - m = j * m + q by rw [Nat.succ_mul]; omega]
    exact flat_at f m hm r j x (by simpa using h) q hq
/-- Declarations in memory. -/
def dcc (d : Dc) : List Value := [.string d.n, .int .i64 d.t, .int .i64 d.pos]
structure Dl (W : World) (p : Option Addr) (n c : Nat) (l : List Dc) : Prop where
  len : l.length = n
  le : n ≤ c
  cap : c ≤ maxLen
  rw_ : Rw W p n (l.flatMap dcc)
theorem Dl.stay {W W' : World} {p : Option Addr} {n c : Nat} {l : List Dc} (h : Dl W p n c l) (k : Ky W W') : Dl W' p n c l := ⟨h.len, h.le, h.cap, h.rw_.stay k⟩
theorem Dl.at {W : World} {p : Option Addr} {n c : Nat} {l : List Dc} (h : Dl W p n c l) {i : Nat} {d : Dc} (hd : l[i]? = some d) : ∃ b o, p = some ⟨b, o, none⟩ ∧ W.cell? ⟨b, o + i * 3, none⟩ = some (.string d.n) ∧ W.cell? ⟨b, o + i * 3 + 1, none⟩ = some (.int .i64 d.t) ∧ W.cell? ⟨b, o + i * 3 + 2, none⟩ = some (.int .i64 d.pos) := by
  have hi := (List.getElem?_eq_some_iff.1 hd).1
  obtain ⟨b, o, e, f⟩ := h.rw_.at (by have := h.len; omega)
  have g := flat_at dcc 3 (fun _ => rfl) l i d hd
  refine ⟨b, o, e, ?_, ?_, ?_⟩
  · exact f _ _ ((g 0 (by omega)).trans rfl)
  · rw [Nat.add_assoc]; exact f _ _ ((g 1 (by omega)).trans rfl)
  · rw [Nat.add_assoc]; exact f _ _ ((g 2 (by omega)).trans rfl)
/-- A function's cells, functions in memory. -/
def Fcr (W : World) (f : Fc) (cs : List Value) : Prop :=
  ∃ (pp : Option Addr) (np cp : Nat) (pv : Option Addr) (nv cv : Nat) (pb : Option Addr) (nb cb : Nat), cs = [.string f.n, .int .i64 f.pos, .slice pp np cp, .int .i64 f.ret, .slice pv nv cv, .slice pb nb cb] ∧ Dl W pp np cp f.ps ∧ Dl W pv nv cv f.vs ∧ Sl W pb nb cb f.bo
theorem Fcr.stay {W W' : World} {f : Fc} {cs : List Value} (k : Ky W W') : Fcr W f cs → Fcr W' f cs
  | ⟨pp, np, cp, pv, nv, cv, pb, nb, cb, h, h1, h2, h3⟩ => ⟨pp, np, cp, pv, nv, cv, pb, nb, cb, h, h1.stay k, h2.stay k, h3.stay k⟩
def Fr6 (W : World) : List Fc → List Value → Prop
  | [], cs => cs = []
  | f :: r, cs => ∃ c1 cr, cs = c1 ++ cr ∧ Fcr W f c1 ∧ Fr6 W r cr
theorem Fr6.stay {W W' : World} (k : Ky W W') : ∀ (l : List Fc) (cs : List Value), Fr6 W l cs → Fr6 W' l cs
  | [], _, h => h
  | _ :: r, _, ⟨c1, cr, h, h1, h2⟩ => ⟨c1, cr, h, h1.stay k, Fr6.stay k r cr h2⟩
theorem Fr6.snoc {W : World} {f : Fc} {c1 : List Value} (hf : Fcr W f c1) : ∀ (l : List Fc) (cs : List Value), Fr6 W l cs → Fr6 W (l ++ [f]) (cs ++ c1)
  | [], cs, h => by
    have h' : cs = [] := h
    subst h'
    exact ⟨c1, [], by simp, hf, rfl⟩
  | _ :: r, _, ⟨c2, cr, h, h1, h2⟩ => ⟨c2, cr ++ c1, by rw [h, List.append_assoc], h1, Fr6.snoc hf r cr h2⟩
theorem Fr6.length {W : World} : ∀ (l : List Fc) (cs : List Value), Fr6 W l cs → cs.length = l.length * 6
  | [], cs, h => by
    have h' : cs = [] := h
    subst h'
    rfl
  | f :: r, _, ⟨c1, cr, h, ⟨pp, np, cp, pv, nv, cv, pb, nb, cb, e, _⟩, h2⟩ => by
    have := Fr6.length r cr h2
    rw [h, List.length_append, this, e]
    simp only [List.length_cons, List.length_nil]
    omega
theorem Fr6.at {W : World} : ∀ (l : List Fc) (cs : List Value), Fr6 W l cs → ∀ (i : Nat) (f : Fc), l[i]? = some f → ∃ c1, Fcr W f c1 ∧ ∀ (q : Nat) (v : Value), c1[q]? = some v → cs[i * 6 + q]? = some v
  | [], _, _, i, f, hf => by simp at hf
  | g :: r, _, ⟨c1, cr, h, h1, h2⟩, 0, f, hf => by
    simp at hf
    subst hf
    refine ⟨c1, h1, fun q v hv => ?_⟩
    rw [h, Nat.zero_mul, Nat.zero_add, List.getElem?_append_left (List.getElem?_eq_some_iff.1 hv).1]
    exact hv
  | g :: r, _, ⟨c1, cr, h, h1, h2⟩, i + 1, f, hf => by
    obtain ⟨c2, h3, h4⟩ := Fr6.at r cr h2 i f (by simpa using hf)
    have h6 : c1.length = 6 := by obtain ⟨_, _, _, _, _, _, _, _, _, e, _⟩ := h1; rw [e]; rfl
    refine ⟨c2, h3, fun q v hv => ?_⟩
    rw [h, List.getElem?_append_right (by omega), h6, show (i + 1) * 6 + q - 6 = i * 6 + q by omega]
    exact h4 q v hv
structure Fl (W : World) (p : Option Addr) (n c : Nat) (l : List Fc) : Prop where
  len : l.length = n
  le : n ≤ c
  cap : c ≤ maxLen
  out : ∃ cs, Fr6 W l cs ∧ Rw W p n cs
theorem Fl.stay {W W' : World} {p : Option Addr} {n c : Nat} {l : List Fc} (h : Fl W p n c l) (k : Ky W W') : Fl W' p n c l :=
  ⟨h.len, h.le, h.cap, h.out.imp fun cs ⟨h1, h2⟩ => ⟨Fr6.stay k l cs h1, h2.stay k⟩⟩
theorem Fl.at {W : World} {p : Option Addr} {n c : Nat} {l : List Fc} (h : Fl W p n c l) {i : Nat} {f : Fc} (hf : l[i]? = some f) :
    ∃ (b o : Nat) (pp : Option Addr) (np cp : Nat) (pv : Option Addr) (nv cv : Nat) (pb : Option Addr) (nb cb : Nat), p = some ⟨b, o, none⟩ ∧ W.cell? ⟨b, o + i * 6, none⟩ = some (.string f.n) ∧ W.cell? ⟨b, o + i * 6 + 1, none⟩ = some (.int .i64 f.pos) ∧ W.cell? ⟨b, o + i * 6 + 2, none⟩ = some (.slice pp np cp) ∧ W.cell? ⟨b, o + i * 6 + 3, none⟩ = some (.int .i64 f.ret) ∧ W.cell? ⟨b, o + i * 6 + 4, none⟩ = some (.slice pv nv cv) ∧ W.cell? ⟨b, o + i * 6 + 5, none⟩ = some (.slice pb nb cb) ∧ Dl W pp np cp f.ps ∧ Dl W pv nv cv f.vs ∧ Sl W pb nb cb f.bo := by
  have hi := (List.getElem?_eq_some_iff.1 hf).1
  obtain ⟨cs, h1, h2⟩ := h.out
  obtain ⟨b, o, e, g⟩ := h2.at (by have := h.len; omega)
  obtain ⟨c1, ⟨pp, np, cp, pv, nv, cv, pb, nb, cb, rfl, d1, d2, d3⟩, h4⟩ := Fr6.at l cs h1 i f hf
  refine ⟨b, o, pp, np, cp, pv, nv, cv, pb, nb, cb, e, ?_, ?_, ?_, ?_, ?_, ?_, d1, d2, d3⟩
  · exact g _ _ (h4 0 _ rfl)
  · rw [Nat.add_assoc]; exact g _ _ (h4 1 _ rfl)
  · rw [Nat.add_assoc]; exact g _ _ (h4 2 _ rfl)
  · rw [Nat.add_assoc]; exact g _ _ (h4 3 _ rfl)
  · rw [Nat.add_assoc]; exact g _ _ (h4 4 _ rfl)
  · rw [Nat.add_assoc]; exact g _ _ (h4 5 _ rfl)
/-- The statement at an index, what stands behind it. -/
theorem Sc.step {W : World} {k pos : Int} {to fd fr : ByteArray} {e : Ex} {bo el r : Sts} {cs : List Value} {i : Nat} (h : Sc W (.one k pos to fd fr e bo el r) (cs.drop (i * 13))) {b o : Nat} (f : ∀ (j : Nat) (v : Value), cs[j]? = some v → W.cell? ⟨b, o + j, none⟩ = some v) :
    ∃ (pa : Option Addr) (na ca : Nat) (pb : Option Addr) (nb cb : Nat) (pe : Option Addr) (ne ce : Nat), (∀ (q : Nat) (v : Value), (stc k pos to fd fr e pa na ca pb nb cb pe ne ce)[q]? = some v → W.cell? ⟨b, o + i * 13 + q, none⟩ = some v) ∧ Ay W pa na ca e.args ∧ Sl W pb nb cb bo ∧ Sl W pe ne ce el ∧ Sc W r (cs.drop ((i + 1) * 13)) := by
  rw [sc_one] at h
  obtain ⟨pa, na, ca, pb, nb, cb, pe, ne, ce, cr, h1, h2, ⟨b1, b2, b3, b4⟩, ⟨e1, e2, e3, e4⟩, h3⟩ := h
  refine ⟨pa, na, ca, pb, nb, cb, pe, ne, ce, fun q v hq => ?_, h2, ⟨b1, b2, b3, b4⟩, ⟨e1, e2, e3, e4⟩, ?_⟩
  · rw [Nat.add_assoc]
    refine f _ _ ?_
    have hl := (List.getElem?_eq_some_iff.1 hq).1
    have h5 : (cs.drop (i * 13))[q]? = some v := by rw [h1, List.getElem?_append_left hl]; exact hq
    rw [List.getElem?_drop] at h5
    exact h5
  · have h6 : cs.drop ((i + 1) * 13) = (cs.drop (i * 13)).drop 13 := by rw [List.drop_drop]; congr 1; omega
    rw [h6, h1]
    have h7 : (stc k pos to fd fr e pa na ca pb nb cb pe ne ce ++ cr).drop 13 = cr := List.drop_left' rfl
    rw [h7]; exact h3
end Go.Proofs.YtgdafolidifdoaaDoor.Tp
