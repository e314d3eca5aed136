/- The walk of the law on what waits in the keys alone. Conditions: the numbers lie in memory as they came in. -/
import Derived.Test.YtabbfoaojmhajaaQRa
import Derived.Test.YtabbfoaojmhajaaQV
namespace Go.Proofs.Ytabbfoaojmhajaa.Q
open Go.ChangeShapes Go.WideShapes Go.ChangeAt Go.RowKit
open N (Kept bs numL keyL Small Rd On)

/-- From B on rows of numbers may turn; all else is as it was. -/
structure Gn (B : Nat) (w w' : World) : Prop where
  low : Below B w w'
  oth : ∀ (k : Nat) (cs : Array Value) (t : TypeId) (fr : Nat × Nat), w.heap[k]? = some (.cells cs t fr) → t ≠ 31 → w'.heap[k]? = some (.cells cs t fr)
theorem Own.gn {w w' : World} {B B' : Nat} {p : Option Addr} {n c : Nat} {l : List ByteArray} (k : Own w B p n c l) (g : Gn B' w w') : Own w' B p n c l :=
  k.far fun a ha => by
    subst ha
    obtain ⟨_, cs, h⟩ := k.blk
    exact (g.oth _ _ _ _ h (by decide)).trans h.symm
theorem Qx.gn {w w' : World} {B B' a b m : Nat} {nm l : List Nat} {f : ByteArray → Option ByteArray} (h : Qx w B a b m nm l f) (g : Gn B' w w') : Qx w' B a b m nm l f := by
  obtain ⟨M, p, q, c, d, h1, h2⟩ := h.s.kv.out
  exact ⟨⟨⟨g.oth _ _ _ _ h.s.qa.out (by decide)⟩, ⟨M, p, q, c, d, ⟨g.oth _ _ _ _ h1.at' (by decide), h1.ks.gn g, h1.ts.gn g, h1.apart, h1.big, h1.nd⟩, h2⟩, h.s.few, Nat.le_trans h.s.base g.low.size, h.s.nml⟩, h.f, h.len⟩
theorem gn_grown {B g n c : Nat} {w w' : World} {o : Obj} {cs : Array Value} {fr : Nat × Nat} (hg : w.heap[g]? = some (.cells cs 31 fr)) (hB : B ≤ g) (hw : B ≤ w.heap.size) (gr : (w.alloc o).grownBy w' (Value.slice (some ⟨g, 0, none⟩) n c).ownBlock) : Gn B w w' := by
  have k : Kept w (w.alloc o) := (Kept.refl w).alloc _
  refine ⟨(k.out.mono hw).grown gr (Nat.le_trans hw k.size) (fun x hx => by simp [Value.ownBlock] at hx; omega), fun x cs' t fr' hx ht => ?_⟩
  have h1 := k.block hx
  refine (gr.block x (Array.getElem?_eq_some_iff.1 h1).1 fun e => ?_).trans h1
  simp [Value.ownBlock] at e
  rw [e, hg] at hx
  injection hx with hx
  injection hx with _ h3
  exact ht h3.symm
/-- A row of numbers of one's own. -/
structure Ur (w : World) (B g n c : Nat) (l : List Nat) : Prop where
  out : w.ownsRow B 31 1 (.slice (some ⟨g, 0, none⟩) n c) n (uc l)
theorem Ur.blk {w : World} {B g n c : Nat} {l : List Nat} (h : Ur w B g n c l) : B ≤ g ∧ ∃ cs, w.heap[g]? = some (.cells cs 31) := by
  rcases h.out.2 with ⟨h1, _⟩ | ⟨g', cap, cur, h1, hB, hg, _⟩
  · injection h1 with h1; cases h1
  · injection h1 with h1 _ _
    injection h1 with h1
    injection h1 with h1
    subst h1
    exact ⟨hB, cur, hg⟩
theorem Ur.vn {w w' : World} {B B' g n c : Nat} {l : List Nat} (h : Ur w B g n c l) (v : Vn B' w w') : Ur w' B g n c l :=
  ⟨h.out.1, h.out.2.imp id fun ⟨g', cap, cur, a, b, e, r⟩ => ⟨g', cap, cur, a, b, v.oth _ _ _ _ e (by decide) (by decide), r⟩⟩
theorem Ur.kept {w w' : World} {B g n c : Nat} {l : List Nat} (h : Ur w B g n c l) (v : Kept w w') : Ur w' B g n c l :=
  ⟨h.out.1, h.out.2.imp id fun ⟨g', cap, cur, a, b, e, r⟩ => ⟨g', cap, cur, a, b, v.block e, r⟩⟩
theorem Ur.small {w : World} {B g n c : Nat} {l : List Nat} (h : Ur w B g n c l) : n ≤ c ∧ c ≤ 9223372036854775807 := (ul_of h.out).small
theorem Ur.len {w : World} {B g n c : Nat} {l : List Nat} (h : Ur w B g n c l) : l.length = n := (ul_of h.out).len
theorem Nl.at {w W : World} {p : Option Addr} {n c : Nat} {A : List Nat} (h : Nl w p n c A) (v : Below w.heap.size w W) {i : Nat} {x : Nat} (hx : A[i]? = some x) :
    ∃ b off, p = some ⟨b, off, none⟩ ∧ W.cell? ⟨b, off + i, none⟩ = some (.int .u64 (x : Nat)) := by
  rcases h.out with h0 | ⟨b, off, rfl, hb, f⟩
  · have := (List.getElem?_eq_some_iff.1 hx).1
    have := h.len
    omega
  · have k : Kept w W := ⟨v⟩
    exact ⟨b, off, rfl, kept_cell k (f i x hx)⟩

/-- The queue and the list while numbers are pushed. -/
structure S1 (w W : World) (i m g n c : Nat) (L : List Nat) (f : ByteArray → Option ByteArray) : Prop where
  qx : Qx W w.heap.size (w.heap.size + 1 + 1) w.heap.size m [110] L f
  rest : ∀ k, f k ≠ none → Ow [110] k
  row : Ur W w.heap.size g n c L
  low : Below w.heap.size w W
  hm : m ≤ 3 * i
  hL : n ≤ i
/-- .. and while they are popped. -/
structure S2 (w W : World) (a i m g n c : Nat) (L : List Nat) (f : ByteArray → Option ByteArray) : Prop where
  qx : Qx W w.heap.size a w.heap.size m [110] (L.drop i) f
  rest : ∀ k, f k ≠ none → Ow [110] k
  ul : Ul W g 0 n c L
  low : Below w.heap.size w W
  hm : m ≤ 120 + 3 * i
  hL : n ≤ 40
theorem rest_next {nm : List Nat} {f f' : ByteArray → Option ByteArray} (h : ∀ k, f k ≠ none → Ow nm k) (h3 : ∀ k, ¬ Ow nm k → f' k = f k) : ∀ k, f' k ≠ none → Ow nm k := by
  intro k hk
  by_cases ho : Ow nm k
  · exact ho
  · rw [h3 k ho] at hk; exact h k hk
theorem S1.same {w W W' : World} {i m g n c z : Nat} {L : List Nat} {f : ByteArray → Option ByteArray} (h : S1 w W i m g n c L f) (hi : i < 40) (hz : z ∈ L) (t : Aft W W' w.heap.size (w.heap.size + 1 + 1) w.heap.size m [110] (psh L z) f) : ∃ m' f', S1 w W' (i + 1) m' g n c L f' := by
  rw [show psh L z = L from if_pos hz] at t
  obtain ⟨m', f', h1, h2, h3⟩ := t.next h.qx (by have := h.hm; omega) h.qx.len
  exact ⟨m', f', h2, rest_next h.rest h3, h.row.vn t.vn, h.low.trans t.vn.low, by have := h.hm; omega, by have := h.hL; omega⟩
theorem S1.more {w W W' W2 : World} {i m g n c z g' c' : Nat} {o : Obj} {L : List Nat} {f : ByteArray → Option ByteArray} (h : S1 w W i m g n c L f) (hi : i < 40) (hz : z ∉ L) (t : Aft W W' w.heap.size (w.heap.size + 1 + 1) w.heap.size m [110] (psh L z) f)
    (o2 : W2.ownsRow w.heap.size 31 1 (.slice (some ⟨g', 0, none⟩) (n + 1) c') (n + 1) (uc (L ++ [z]))) (gr : (W'.alloc o).grownBy W2 (Value.slice (some ⟨g, 0, none⟩) n c).ownBlock) : ∃ m' f', S1 w W2 (i + 1) m' g' (n + 1) c' (L ++ [z]) f' := by
  rw [show psh L z = L ++ [z] from if_neg hz] at t
  have hln := h.row.len
  obtain ⟨m', f', h1, h2, h3⟩ := t.next h.qx (by have := h.hm; omega) (by have := h.hL; simp; omega)
  obtain ⟨hB, cs, hg⟩ := (h.row.vn t.vn).blk
  have gn := gn_grown hg hB (Nat.le_trans h.qx.s.base t.vn.size) gr
  exact ⟨m', f', h2.gn gn, rest_next h.rest h3, ⟨o2⟩, (h.low.trans t.vn.low).trans gn.low, by have := h.hm; omega, by have := h.hL; omega⟩
theorem S1.turn {w W : World} {i m g n c : Nat} {L : List Nat} {f : ByteArray → Option ByteArray} (h : S1 w W i m g n c L f) (hi : i ≤ 40) : S2 w W (w.heap.size + 1 + 1) 0 m g n c L f :=
  ⟨h.qx, h.rest, ul_of h.row.out, h.low, by have := h.hm; omega, by have := h.hL; omega⟩
theorem S2.renew {w W : World} {a i m g n c : Nat} {L : List Nat} {f : ByteArray → Option ByteArray} (h : S2 w W a i m g n c L f) : S2 w (W.alloc (.cells #[.iface 23 (.pointer (some ⟨w.heap.size, 0, none⟩)), .string (bs [110])] 51)) W.heap.size i m g n c L f :=
  have k : Kept W (W.alloc (.cells #[.iface 23 (.pointer (some ⟨w.heap.size, 0, none⟩)), .string (bs [110])] 51)) := (Kept.refl W).alloc _
  ⟨qx_new h.qx.s.kv h.qx.s.few h.qx.s.base h.qx.f h.qx.len, h.rest, h.ul.kept k, h.low.trans (k.out.mono h.low.size), h.hm, h.hL⟩
theorem S2.next {w W W' : World} {a i m g n c : Nat} {L : List Nat} {f : ByteArray → Option ByteArray} (h : S2 w W a i m g n c L f) (hi : i < n) (t : Aft W W' w.heap.size a w.heap.size m [110] (L.drop i).tail f) : ∃ m' f', S2 w W' a (i + 1) m' g n c L f' := by
  rw [List.tail_drop] at t
  have hln := h.ul.len
  have hl := h.hL
  obtain ⟨m', f', h1, h2, h3⟩ := t.next h.qx (by have := h.hm; omega) (by rw [List.length_drop]; omega)
  exact ⟨m', f', h2, rest_next h.rest h3, h.ul.vn t.vn, h.low.trans t.vn.low, by have := h.hm; omega, hl⟩
theorem S2.pop {w W : World} {a i m g n c x : Nat} {L : List Nat} {f : ByteArray → Option ByteArray} (h : S2 w W a i m g n c L f) (hi : i < n) (hx : L[i]? = some x) :
    Calls Try.prog 12 #[.pointer (some ⟨a, 0, none⟩)] W fun e w' => e = .returned (.tuple #[.int .u64 (x : Nat), .bool true, .int .i64 0]) ∧ Aft W w' w.heap.size a w.heap.size m [110] (L.drop i).tail f := by
  have hl := h.hL
  have := h.qx.pop (by have := h.hm; omega)
  obtain ⟨hi2, rfl⟩ := List.getElem?_eq_some_iff.1 hx
  rw [List.drop_eq_getElem_cons hi2] at this ⊢
  exact this
end Go.Proofs.Ytabbfoaojmhajaa.Q
