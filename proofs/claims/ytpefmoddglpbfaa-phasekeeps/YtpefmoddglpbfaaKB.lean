/- Keys and texts in memory: two rows of texts beside one another, and what turns of memory while they turn. No condition but those that each row names. -/
import Derived.Test.YtpefmoddglpbfaaKA
import Derived.WalkKit
import Derived.ProofKit
import Derived.WalkSpells
import Derived.Deep.LoopGhost
import Derived.Below
import Derived.Laws.CopyRow
import Derived.Laws.OwnMore
import Derived.Laws.MakeOwn
import Derived.Laws.Rows
import Derived.Laws.ResultCell
import Derived.Maps.AppendAt
import Derived.Deep.AppendLies
import Derived.Deep.RegionHeld3
import Derived.Deep.RegionLaw
import Derived.Deep.DrawnRows
import Derived.Deep.RegionWith
import Derived.Deep.QuietTactic
import Derived.BigQuiet
namespace Go.Proofs.Ytpefmoddglpbfaa.Q
open Go.ChangeShapes Go.WideShapes Go.ChangeAt Go.RowKit
open N (Kept)
variable {E : Nat → Prop}

/-- From B on keys and texts may turn, but no block of E; all else is as it was. -/
structure Vn (E : Nat → Prop) (B : Nat) (w w' : World) : Prop where
  low : Below B w w'
  oth : ∀ (k : Nat) (o : Obj), w.heap[k]? = some o → ((∀ cs t fr, o = .cells cs t fr → t ≠ 9 ∧ t ≠ 41) ∨ E k) → w'.heap[k]? = some o
theorem Vn.refl (B : Nat) (w : World) : Vn E B w w := ⟨Below.refl _ _, fun _ _ h _ => h⟩
theorem Vn.trans {B : Nat} {a b c : World} (h : Vn E B a b) (k : Vn E B b c) : Vn E B a c := ⟨h.low.trans k.low, fun n o e h1 => k.oth n o (h.oth n o e h1) h1⟩
theorem Vn.of {w w' : World} (h : Kept w w') {B : Nat} (hB : B ≤ w.heap.size) : Vn E B w w' := ⟨h.out.mono hB, fun _ _ e _ => h.block e⟩
theorem Vn.cells {B : Nat} {w w' : World} (h : Vn E B w w') {k : Nat} {cs : Array Value} {t : TypeId} {fr : Nat × Nat} (e : w.heap[k]? = some (.cells cs t fr)) (h1 : t ≠ 9) (h2 : t ≠ 41) : w'.heap[k]? = some (.cells cs t fr) :=
  h.oth k _ e (.inl fun _ _ _ q => by injection q with _ q _; subst q; exact ⟨h1, h2⟩)
theorem Vn.map {B : Nat} {w w' : World} (h : Vn E B w w') {k : Nat} {es : Array MapEntry} {c : Nat} (e : w.heap[k]? = some (.map es c)) : w'.heap[k]? = some (.map es c) :=
  h.oth k _ e (.inl fun _ _ _ q => by cases q)
theorem Vn.size {B : Nat} {w w' : World} (h : Vn E B w w') : w.heap.size ≤ w'.heap.size := h.low.size
theorem Vn.kept {w w' : World} (h : Vn E w.heap.size w w') : Kept w w' := ⟨h.low⟩
theorem Vn.mono {B B' : Nat} {w w' : World} (h : Vn E B w w') (hB : B' ≤ B) : Vn E B' w w' := ⟨h.low.mono hB, h.oth⟩

theorem keptN (w : World) (n : Nat) : Kept w (w.drewN n) := ⟨⟨rfl, rfl, rfl, Nat.le_refl _, fun _ _ => rfl⟩⟩
theorem kept_set {a b : World} (h : Kept a b) {p : Addr} (hp : a.heap.size ≤ p.block) (u : Value) : Kept a (b.setCell p u) := ⟨h.out.setCell hp u⟩
theorem kept_cell {w w' : World} (h : Kept w w') {a : Addr} {u : Value} (k : w.cell? a = some u) : w'.cell? a = some u :=
  (h.out.cell (World.block_lt_of_cell? w _ k)).trans k
theorem kept_grown {w w' : World} (h : Kept w w') (r : Option Nat) : w.grownBy w' r := ⟨h.out.os, h.out.tape, h.out.output, h.out.size, fun i hi _ => h.out.block i hi⟩
theorem size_alloc (w : World) (o : Obj) : (w.alloc o).heap.size = w.heap.size + 1 := Array.size_push ..

/-- Texts as cells. -/
def sc (l : List ByteArray) : List Value := l.map Value.string
theorem sc_length (l : List ByteArray) : (sc l).length = l.length := by simp [sc]
theorem sc_at {l : List ByteArray} {i : Nat} {x : ByteArray} (h : l[i]? = some x) : (sc l)[i]? = some (.string x) := by simp [sc, h]
theorem sc_append (a b : List ByteArray) : sc (a ++ b) = sc a ++ sc b := by simp [sc]
theorem sc_one (l : List ByteArray) : ∀ u ∈ sc l, u.oneCell' = true := by
  intro u hu; simp [sc] at hu; obtain ⟨z, _, rfl⟩ := hu; rfl
theorem sc_set (l : List ByteArray) (i : Nat) (t : ByteArray) : (sc l).set i (.string t) = sc (l.set i t) := by simp [sc]

/-- A row of texts of one's own, among the blocks from B on. -/
structure Own (w : World) (B : Nat) (p : Option Addr) (n c : Nat) (l : List ByteArray) : Prop where
  out : w.ownsRow B 9 1 (.slice p n c) n (sc l)
theorem Own.len {w : World} {B : Nat} {p : Option Addr} {n c : Nat} {l : List ByteArray} (h : Own w B p n c l) : l.length = n := by
  have := h.out.1; rw [sc_length] at this; omega
theorem Own.mono {w : World} {B B' : Nat} {p : Option Addr} {n c : Nat} {l : List ByteArray} (h : Own w B p n c l) (hB : B' ≤ B) : Own w B' p n c l :=
  ⟨h.out.1, h.out.2.imp id fun ⟨g, cap, cur, a, b, r⟩ => ⟨g, cap, cur, a, Nat.le_trans hB b, r⟩⟩
theorem Own.kept {w w' : World} {B : Nat} {p : Option Addr} {n c : Nat} {l : List ByteArray} (k : Own w B p n c l) (h : Kept w w') : Own w' B p n c l :=
  ⟨k.out.kept (kept_grown h none) (by cases p <;> simp [Value.ownBlock])⟩
theorem own_nil (w : World) (B : Nat) : Own w B none 0 0 [] := ⟨World.ownsRow_nil _ _ _ _⟩
theorem Own.small {w : World} {B : Nat} {p : Option Addr} {n c : Nat} {l : List ByteArray} (k : Own w B p n c l) : n ≤ c ∧ c ≤ 9223372036854775807 := by
  rcases k.out.2 with ⟨h1, h2⟩ | ⟨g, cap, cur, h1, hB, hg, hn, hm, hs, ht⟩
  · injection h1 with h1 h3 h2
    omega
  · injection h1 with h1 _ h2
    unfold maxLen at hm
    omega
theorem Own.at {w : World} {B : Nat} {p : Option Addr} {n c : Nat} {l : List ByteArray} (k : Own w B p n c l) {i : Nat} {x : ByteArray} (hx : l[i]? = some x) :
    ∃ g, p = some ⟨g, 0, none⟩ ∧ w.cell? ⟨g, i, none⟩ = some (.string x) ∧ w.frozen? ⟨g, i, none⟩ = false := by
  have hl := k.len
  have hi := (List.getElem?_eq_some_iff.1 hx).1
  rcases k.out.2 with ⟨h1, h2⟩ | ⟨g, cap, cur, h1, hB, hg, hn, hm, hs, ht⟩
  · omega
  · injection h1 with h1 _ h2
    subst h1
    refine ⟨g, rfl, ?_, frozen_of_row w g i _ _ hg⟩
    rw [cell_of_row w g i _ _ _ hg]
    have := sc_at hx
    rw [← ht, List.getElem?_take] at this
    split at this
    · simpa using this
    · cases this
theorem Own.blk {w : World} {B : Nat} {a : Addr} {n c : Nat} {l : List ByteArray} (k : Own w B (some a) n c l) : B ≤ a.block ∧ ∃ cs, w.heap[a.block]? = some (.cells cs 9) := by
  rcases k.out.2 with ⟨h1, h2⟩ | ⟨g, cap, cur, h1, hB, hg, _⟩
  · injection h1 with h1; cases h1
  · injection h1 with h1 _ h2
    injection h1 with h1
    subst h1
    exact ⟨hB, _, hg⟩
/-- A row stays while another block turns. -/
theorem Own.far {w w' : World} {B : Nat} {p : Option Addr} {n c : Nat} {l : List ByteArray} (k : Own w B p n c l) (h : ∀ a, p = some a → w'.heap[a.block]? = w.heap[a.block]?) : Own w' B p n c l := by
  refine ⟨k.out.1, k.out.2.imp id ?_⟩
  rintro ⟨g, cap, cur, h1, hB, hg, r⟩
  injection h1 with h1 h3 h2
  subst h1
  exact ⟨g, cap, cur, by rw [h2], hB, (h _ rfl).trans hg, r⟩

/-- What a key has in a list. -/
def got (k : ByteArray) (M : List (ByteArray × ByteArray)) : Option ByteArray := (M.find? fun e => decide (e.1 = k)).map Prod.snd
theorem got_cons_eq {k t : ByteArray} {M : List (ByteArray × ByteArray)} : got k ((k, t) :: M) = some t := by unfold got; rw [List.find?_cons_of_pos (by simp)]; rfl
theorem got_cons_ne {k k' t : ByteArray} {M : List (ByteArray × ByteArray)} (h : k' ≠ k) : got k ((k', t) :: M) = got k M := by unfold got; rw [List.find?_cons_of_neg (by simp [h])]
theorem got_at : ∀ {M : List (ByteArray × ByteArray)} {k : ByteArray} {i : Nat} {x : ByteArray × ByteArray}, M[i]? = some x → x.1 = k → (∀ e ∈ M.take i, e.1 ≠ k) → got k M = some x.2
  | [], _, _, _, h, _, _ => by simp at h
  | a :: r, k, 0, x, h, hx, _ => by simp at h; subst h; subst hx; exact got_cons_eq
  | a :: r, k, i + 1, x, h, hx, hl => by
    rw [show a :: r = (a.1, a.2) :: r from rfl, got_cons_ne (hl a (by simp))]
    exact got_at (by simpa using h) hx (fun e he => hl e (by simp [he]))
theorem got_no : ∀ {M : List (ByteArray × ByteArray)} {k : ByteArray}, (∀ e ∈ M, e.1 ≠ k) → got k M = none
  | [], _, _ => rfl
  | a :: r, k, h => by
    rw [show a :: r = (a.1, a.2) :: r from rfl, got_cons_ne (h a (by simp))]
    exact got_no (fun e he => h e (by simp [he]))
theorem got_append (k : ByteArray) : ∀ (M : List (ByteArray × ByteArray)) (L : List (ByteArray × ByteArray)), got k (M ++ L) = (got k M).or (got k L)
  | [], L => by rfl
  | a :: r, L => by
    by_cases h : a.1 = k
    · subst h
      rw [List.cons_append, show a :: (r ++ L) = (a.1, a.2) :: (r ++ L) from rfl, got_cons_eq, show a :: r = (a.1, a.2) :: r from rfl, got_cons_eq]; rfl
    · rw [List.cons_append, show a :: (r ++ L) = (a.1, a.2) :: (r ++ L) from rfl, got_cons_ne h, show a :: r = (a.1, a.2) :: r from rfl, got_cons_ne h, got_append k r L]
theorem got_mem {M : List (ByteArray × ByteArray)} {e : ByteArray × ByteArray} (h : e ∈ M) : got e.1 M ≠ none := by
  unfold got
  intro h1
  rw [Option.map_eq_none_iff, List.find?_eq_none] at h1
  have := h1 e h
  simp at this

/-- Keys and texts: in block b, of the list M. -/
structure Km (E : Nat → Prop) (w : World) (B b m : Nat) (M : List (ByteArray × ByteArray)) (p q : Option Addr) (c d : Nat) : Prop where
  at' : w.heap[b]? = some (.cells #[.slice p m c, .slice q m d] 41)
  ks : Own w B p m c (M.map Prod.fst)
  ts : Own w B q m d (M.map Prod.snd)
  apart : ∀ x y, p = some x → q = some y → x.block ≠ y.block
  big : B ≤ b
  nd : (M.map Prod.fst).Nodup
  ex : ∀ x, E x → x ≠ b ∧ (∀ a, p = some a → x ≠ a.block) ∧ (∀ a, q = some a → x ≠ a.block) ∧ x < w.heap.size
theorem Km.len {w : World} {B b m : Nat} {M : List (ByteArray × ByteArray)} {p q : Option Addr} {c d : Nat} (h : Km E w B b m M p q c d) : M.length = m := by have := h.ks.len; simpa using this
theorem Km.c0 {w : World} {B b m : Nat} {M : List (ByteArray × ByteArray)} {p q : Option Addr} {c d : Nat} (h : Km E w B b m M p q c d) : w.cell? ⟨b, 0, none⟩ = some (.slice p m c) := by rw [cell_of_row w b 0 _ _ _ h.at']; rfl
theorem Km.c1 {w : World} {B b m : Nat} {M : List (ByteArray × ByteArray)} {p q : Option Addr} {c d : Nat} (h : Km E w B b m M p q c d) : w.cell? ⟨b, 1, none⟩ = some (.slice q m d) := by rw [cell_of_row w b 1 _ _ _ h.at']; rfl
theorem Km.f0 {w : World} {B b m : Nat} {M : List (ByteArray × ByteArray)} {p q : Option Addr} {c d : Nat} (h : Km E w B b m M p q c d) (j : Nat) : w.frozen? ⟨b, j, none⟩ = false := frozen_of_row w b j _ _ h.at'
theorem Km.kept {w w' : World} {B b m : Nat} {M : List (ByteArray × ByteArray)} {p q : Option Addr} {c d : Nat} (h : Km E w B b m M p q c d) (k : Kept w w') : Km E w' B b m M p q c d :=
  ⟨k.block h.at', h.ks.kept k, h.ts.kept k, h.apart, h.big, h.nd, fun x hx => ⟨(h.ex x hx).1, (h.ex x hx).2.1, (h.ex x hx).2.2.1, Nat.lt_of_lt_of_le (h.ex x hx).2.2.2 k.size⟩⟩
theorem Km.at {w : World} {B b m : Nat} {M : List (ByteArray × ByteArray)} {p q : Option Addr} {c d : Nat} (h : Km E w B b m M p q c d) {i : Nat} {x : ByteArray × ByteArray} (hx : M[i]? = some x) :
    ∃ g g', p = some ⟨g, 0, none⟩ ∧ q = some ⟨g', 0, none⟩ ∧ w.cell? ⟨g, i, none⟩ = some (.string x.1) ∧ w.cell? ⟨g', i, none⟩ = some (.string x.2) ∧ w.frozen? ⟨g', i, none⟩ = false := by
  obtain ⟨g, e1, a1, _⟩ := h.ks.at (i := i) (x := x.1) (by simp [hx])
  obtain ⟨g', e2, a2, a3⟩ := h.ts.at (i := i) (x := x.2) (by simp [hx])
  exact ⟨g, g', e1, e2, a1, a2, a3⟩
/-- Keys and texts as a function. -/
structure Kv (E : Nat → Prop) (w : World) (B b m : Nat) (f : ByteArray → Option ByteArray) : Prop where
  out : ∃ M p q c d, Km E w B b m M p q c d ∧ ∀ k, f k = got k M
theorem Kv.kept {w w' : World} {B b m : Nat} {f : ByteArray → Option ByteArray} (h : Kv E w B b m f) (k : Kept w w') : Kv E w' B b m f := by
  obtain ⟨M, p, q, c, d, h1, h2⟩ := h.out
  exact ⟨M, p, q, c, d, h1.kept k, h2⟩
theorem Kv.zero {w : World} {B b m : Nat} {f : ByteArray → Option ByteArray} (h : Kv E w B b m f) : m = 0 ↔ ∀ k, f k = none := by
  obtain ⟨M, p, q, c, d, h1, h2⟩ := h.out
  have hl := h1.len
  constructor
  · rintro rfl k
    rw [List.length_eq_zero_iff] at hl
    subst hl
    exact h2 k
  · intro h3
    cases M with
    | nil => simpa using hl.symm
    | cons a r =>
      have := h3 a.1
      rw [h2] at this
      exact absurd this (got_mem (by simp))
theorem info9 : (Try.prog.info? 9).map (fun i => (i.zero, i.size, i.bytes)) = some (some (.string ⟨#[]⟩), 1, 16) := by kernel_rfl

/-- An append, at a step of a region that draws: what is appended to is no nil slice, or something is appended. -/
theorem step_append_any {P : Program} {w : World} {ops : Array Oper} {o : Oper} {a : Act} {K : Act → World → Prop} {Q : Exit → Act → World → Prop} {E : Prop} (hgd : o.guard = none) (s x : Operand) (t : TypeId)
    (ho : o.op = .call { callee := .builtin .append, args := #[s, x], argTypes := #[t, t] })
    (base : Nat) (e : TypeId) (i : TypeInfo) (z : Value) (size bytes : Nat) (ht : P.underlying t = some (.slice e)) (hi : P.info? e = some i) (hz : i.zero = some z)
    (hsize : i.size = size) (hby : i.bytes = bytes) (hzs : z.cells.size = size) (hsz : 0 < size)
    (v : Value) (n : Nat) (xs : List Value) (hs : a.eval s = v) (hown : w.ownsRow base e size v n xs)
    (ad : Addr) (m c : Nat) (news : List Value) (hx : a.eval x = .slice (some ad) m c) (hl : news.length = m * size) (hnews : ∀ j u, news[j]? = some u → w.cell? (ad.add j) = some u) (h1 : ∀ u ∈ news, u.oneCell' = true)
    (hm : v ≠ .slice none 0 0 ∨ 0 < m) (h63 : n + m ≤ maxLen) (hbytes : (n + m) * bytes ≤ 140737488355328) (hbase : base ≤ w.heap.size) (H : Nat) (hH : w.heap.size = H)
    (h : ∀ g cap w', w'.ownsRow base e size (.slice (some ⟨g, 0, none⟩) (n + m) cap) (n + m) (xs ++ news) → w.grownBy w' v.ownBlock → (v.ownBlock = some g ∨ g = H) → K (a.put o.dst (.slice (some ⟨g, 0, none⟩) (n + m) cap)) w') :
    if Region.wanted o (yielded ops a.tmps) = true then Oper.wp P o a w K Q else E := by
  have hw : Region.wanted o (yielded ops a.tmps) = true := by simp [Region.wanted, hgd]
  rw [if_pos hw]
  obtain ⟨v', w', hr, h2, h3, h4, h5⟩ := run_append_own_at (P := P) w base t o.type e i z size bytes ht hi hz hsize hby hzs hsz v n xs hown ad m c news hl hnews h1 h63 hbytes hbase
  have hv : ∃ g cap, v' = .slice (some ⟨g, 0, none⟩) (n + m) cap := by
    rcases h2.2 with ⟨e0, e1⟩ | ⟨g, cap, cur, e0, _⟩
    · rcases hm with hm | hm
      · exact absurd (h4.1 e0).1 hm
      · omega
    · exact ⟨g, cap, e0⟩
  obtain ⟨g, cap, rfl⟩ := hv
  unfold Oper.wp execOp
  simp only [ho, resolve, invoke, builtin, Sem.run_bind, Sem.run_pure, Result.andThen_ok, List.map_toArray, List.map_cons, List.map_nil, hs, hx, hr]
  refine h g cap w' h2 h3 ?_
  rcases h5 with h5 | h5
  · exact .inl (by rw [← h5]; rfl)
  · right
    have : g = w.heap.size := by simpa [Value.ownBlock] using h5
    rw [this, hH]
end Go.Proofs.Ytpefmoddglpbfaa.Q
