/- The walk of the law on acts. Conditions: the acts lie in memory as they came in. -/
import Derived.Test.YtabbfoaojmhajaaQTb
namespace Go.Proofs.Ytabbfoaojmhajaa.Q
open Go.ChangeShapes Go.WideShapes Go.ChangeAt Go.RowKit
open N (Kept bs numL keyL Small Rd On)

theorem plays_walk {w : World} {B a b m bx ox n c : Nat} {nm l : List Nat} {f : ByteArray → Option ByteArray} (h : Qx w B a b m nm l f) (u : Ul w bx ox n c l) (hm : m ≤ 900) (what : Int) (N0 : Nat) (hN0 : N0 < 18446744073709551616) (o : Bool) :
    Calls Try.prog 8 #[.pointer (some ⟨a, 0, none⟩), .slice (some ⟨bx, ox, none⟩) n c, .agg #[.int .i64 what, .int .u64 (N0 : Nat), .bool o]] w fun e w' => ∃ b' off' n' c' l', e = .returned (.tuple #[.slice (some ⟨b', off', none⟩) n' c', .bool true]) ∧ Pla w w' B a b m nm f b' off' n' c' l' ∧ l'.length ≤ l.length + 1 := by
  obtain ⟨k, hk⟩ : ∃ k, bits .and .i64 what 3 = k := ⟨_, rfl⟩
  by_cases h2 : k = 2
  · subst h2
    refine (plays_pop h u hm what N0 hN0 o hk).mono ?_
    rintro e w' ⟨b', o', n', c', rfl, p⟩
    exact ⟨b', o', n', c', _, rfl, p, by rw [List.length_tail]; omega⟩
  · by_cases h3 : k = 3
    · subst h3
      refine (plays_ask h u what N0 hN0 o hk).mono ?_
      rintro e w' ⟨b', o', n', c', rfl, p⟩
      exact ⟨b', o', n', c', _, rfl, p, by omega⟩
    · by_cases hi : N0 % 2 ^ 62 ∈ l
      · refine (plays_old h u hm what k N0 hN0 o hk (by simpa using h2) (by simpa using h3) hi).mono ?_
        rintro e w' ⟨b', o', n', c', rfl, p⟩
        exact ⟨b', o', n', c', _, rfl, p, psh_len _ _⟩
      · refine (plays_new h u hm what k N0 hN0 o hk (by simpa using h2) (by simpa using h3) hi).mono ?_
        rintro e w' ⟨b', o', n', c', rfl, p⟩
        exact ⟨b', o', n', c', _, rfl, p, psh_len _ _⟩

/-- An act that came in. -/
structure Ac where
  what : Int
  n : Nat
  o : Bool
/-- Acts that came in. -/
structure Al (w : World) (p : Option Addr) (n c : Nat) (A : List Ac) : Prop where
  len : A.length = n
  le : n ≤ c
  cap : c ≤ maxLen
  n64 : ∀ x ∈ A, x.n < 18446744073709551616
  out : n = 0 ∨ ∃ b off, p = some ⟨b, off, none⟩ ∧ b < w.heap.size ∧ ∀ i x, A[i]? = some x → w.cell? ⟨b, off + i * 3, none⟩ = some (.int .i64 x.what) ∧ w.cell? ⟨b, off + i * 3 + 1, none⟩ = some (.int .u64 (x.n : Nat)) ∧ w.cell? ⟨b, off + i * 3 + 2, none⟩ = some (.bool x.o)
theorem Al.at {w W : World} {p : Option Addr} {n c : Nat} {A : List Ac} (h : Al w p n c A) (v : Below w.heap.size w W) {i : Nat} {x : Ac} (hx : A[i]? = some x) :
    ∃ b off, p = some ⟨b, off, none⟩ ∧ W.cell? ⟨b, off + i * 3, none⟩ = some (.int .i64 x.what) ∧ W.cell? ⟨b, off + i * 3 + 1, none⟩ = some (.int .u64 (x.n : Nat)) ∧ W.cell? ⟨b, off + i * 3 + 2, none⟩ = some (.bool x.o) := by
  rcases h.out with h0 | ⟨b, off, rfl, hb, f⟩
  · have := (List.getElem?_eq_some_iff.1 hx).1
    have := h.len
    omega
  · obtain ⟨c0, c1, c2⟩ := f i x hx
    have k : Kept w W := ⟨v⟩
    exact ⟨b, off, rfl, kept_cell k c0, kept_cell k c1, kept_cell k c2⟩

/-- Two queues over the same keys and texts, and their lists. -/
structure Pw (w W : World) (m bx ox nx cx bY oy ny cy : Nat) (X Y : List Nat) (f : ByteArray → Option ByteArray) : Prop where
  qa : Qx W w.heap.size (w.heap.size + 1) w.heap.size m [97] X f
  qb : Qx W w.heap.size (w.heap.size + 1 + 1) w.heap.size m [98] Y f
  ux : Ul W bx ox nx cx X
  uy : Ul W bY oy ny cy Y
  rest : ∀ k, f k ≠ none → Ow [97] k ∨ Ow [98] k
  vn : Vn w.heap.size w W
theorem Pw.first {w W W' : World} {m bx ox nx cx bY oy ny cy b' o' n' c' : Nat} {X Y l' : List Nat} {f : ByteArray → Option ByteArray} (h : Pw w W m bx ox nx cx bY oy ny cy X Y f) (hm : m ≤ 900) (hl : l'.length ≤ 300) (p : Pla W W' w.heap.size (w.heap.size + 1) w.heap.size m [97] f b' o' n' c' l') :
    ∃ m' f', m' ≤ m + 3 ∧ Pw w W' m' b' o' n' c' bY oy ny cy l' Y f' := by
  obtain ⟨m', f', h1, h2, h3⟩ := p.aft.next h.qa hm hl
  refine ⟨m', f', h1, h2, ⟨⟨h.qb.s.qa.vn p.aft.vn, h2.s.kv, h2.s.few, h2.s.base, h.qb.s.nml⟩, h.qb.f.frame fun k hk => h3 k fun hk2 => ow_one (by omega) (by omega) (by omega) hk2 hk, h.qb.len⟩, p.ul, h.uy.vn p.aft.vn, fun k hk => ?_, h.vn.trans p.aft.vn⟩
  by_cases ho : Ow [97] k
  · exact .inl ho
  · rw [h3 k ho] at hk; exact h.rest k hk
theorem Pw.second {w W W' : World} {m bx ox nx cx bY oy ny cy b' o' n' c' : Nat} {X Y l' : List Nat} {f : ByteArray → Option ByteArray} (h : Pw w W m bx ox nx cx bY oy ny cy X Y f) (hm : m ≤ 900) (hl : l'.length ≤ 300) (p : Pla W W' w.heap.size (w.heap.size + 1 + 1) w.heap.size m [98] f b' o' n' c' l') :
    ∃ m' f', m' ≤ m + 3 ∧ Pw w W' m' bx ox nx cx b' o' n' c' X l' f' := by
  obtain ⟨m', f', h1, h2, h3⟩ := p.aft.next h.qb hm hl
  refine ⟨m', f', h1, ⟨⟨h.qa.s.qa.vn p.aft.vn, h2.s.kv, h2.s.few, h2.s.base, h.qa.s.nml⟩, h.qa.f.frame fun k hk => h3 k fun hk2 => ow_one (by omega) (by omega) (by omega) hk hk2, h.qa.len⟩, h2, h.ux.vn p.aft.vn, p.ul, fun k hk => ?_, h.vn.trans p.aft.vn⟩
  by_cases ho : Ow [98] k
  · exact .inr ho
  · rw [h3 k ho] at hk; exact h.rest k hk
theorem Pw.none {w W : World} {m bx ox nx cx bY oy ny cy : Nat} {f : ByteArray → Option ByteArray} (h : Pw w W m bx ox nx cx bY oy ny cy [] [] f) : m = 0 := by
  refine h.qa.s.kv.zero.2 fun k => ?_
  cases e : f k with
  | none => rfl
  | some t =>
    rcases h.rest k (by rw [e]; intro h; cases h) with h1 | h1
    · rw [h.qa.f.empty h1] at e; cases e
    · rw [h.qb.f.empty h1] at e; cases e
end Go.Proofs.Ytabbfoaojmhajaa.Q
