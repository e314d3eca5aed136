/- An expression that the statements make: its texts in plain words, and the walk of expr. Conditions: numbers of 64 bits, texts that can be. -/
import Derived.Test.YtgdafolidifdoaaDoorIB
import Derived.Laws.Bits64b
import Derived.Maps.AppendAt
import Derived.Deep.RegionLaw
import Derived.Laws.CopyOwn
import Derived.Laws.Tables
namespace Go.Proofs.YtgdafolidifdoaaDoor.Tp
open Go.ChangeShapes Go.WideShapes Go.ChangeAt Go.RowKit

/-- A number's lowest bits. -/
def lw (k : Nat) (a : Int) : Nat := (a % ((2 ^ 64 : Nat) : Int)).toNat % 2 ^ k
theorem lw_lt (k : Nat) (a : Int) : lw k a < 2 ^ k := Nat.mod_lt _ (Nat.two_pow_pos k)
theorem lw_bits (k m : Nat) (hk : k ≤ 10) (h1 : (BitVec.ofInt 64 (m : Int)).toNat = 2 ^ k - 1) (a : Int) : bits .and .i64 a m = ((lw k a : Nat) : Int) := by
  have key : (BitVec.ofInt 64 a &&& BitVec.ofInt 64 m).toNat = (a % ((2 ^ 64 : Nat) : Int)).toNat % 2 ^ k := by
    rw [BitVec.toNat_and, BitVec.toNat_ofInt, h1, Nat.and_two_pow_sub_one_eq_mod]
  have hp : 2 ^ k ≤ 2 ^ 10 := Nat.pow_le_pow_right (by decide) hk
  have hl := Nat.mod_lt (a % ((2 ^ 64 : Nat) : Int)).toNat (Nat.two_pow_pos k)
  show IntKind.i64.wrap ((BitVec.ofInt 64 a &&& BitVec.ofInt 64 m).toNat : Nat) = _
  rw [key, IntKind.wrap_i64]
  unfold lw
  omega

/-- What the statements hand in. -/
structure Ev where
  k : Int
  op : Int
  n : Int
  a : ByteArray
  b : ByteArray
  m : Int
def ev (e : Ev) : Array Value := #[.int .i64 e.k, .int .i64 e.op, .int .i64 e.n, .string e.a, .string e.b, .int .i64 e.m]
structure Okv (e : Ev) : Prop where
  k : I64 e.k
  op : I64 e.op
  n : I64 e.n
  a : e.a.size ≤ maxLen
  b : e.b.size ≤ maxLen
/-- The expression that is made of it. -/
def mx (e : Ev) : Ex := ⟨e.k, sho e.a, sho e.b, e.op, e.n, List.replicate (lw 2 e.m) (sho e.b)⟩
theorem mx_sx {e : Ev} (h : Okv e) : Sx (mx e) :=
  ⟨h.k, sho_size _, sho_size _, h.op, h.n, by
    have h1 := lw_lt 2 e.m
    refine ⟨by show (List.replicate _ _).length ≤ 3; rw [List.length_replicate]; omega, fun x hx => ?_⟩
    rw [List.eq_of_mem_replicate hx]
    exact sho_size _⟩
def sc (l : List ByteArray) : List Value := l.map fun x => Value.string x


/-- An append within a region that draws. -/
theorem step_append_any {P : Program} {w : World} {ops : Array Oper} {o : Oper} {a : Act} {K : Act → World → Prop} {Q : Exit → Act → World → Prop} {E : Prop} (hgd : o.guard = none) (s x : Operand) (t : TypeId)
    (ho : o.op = .call { callee := .builtin .append, args := #[s, x], argTypes := #[t, t] })
    (base : Nat) (e : TypeId) (i : TypeInfo) (z : Value) (size bytes : Nat) (ht : P.underlying t = some (.slice e)) (hi : P.info? e = some i) (hz : i.zero = some z)
    (hsize : i.size = size) (hby : i.bytes = bytes) (hzs : z.cells.size = size) (hsz : 0 < size)
    (v : Value) (n : Nat) (xs : List Value) (hs : a.eval s = v) (hown : w.ownsRow base e size v n xs)
    (ad : Addr) (m c : Nat) (news : List Value) (hx : a.eval x = .slice (some ad) m c) (hl : news.length = m * size) (hnews : ∀ j u, news[j]? = some u → w.cell? (ad.add j) = some u) (h1 : ∀ u ∈ news, u.oneCell' = true)
    (hm : v ≠ .slice none 0 0 ∨ 0 < m) (h63 : n + m ≤ maxLen) (hbytes : (n + m) * bytes ≤ 140737488355328) (hbase : base ≤ w.heap.size) (H : Nat) (hH : w.heap.size = H)
    (h : ∀ g cap w', w'.ownsRow base e size (.slice (some ⟨g, 0, none⟩) (n + m) cap) (n + m) (xs ++ news) → w.grownBy w' v.ownBlock → (v.ownBlock = some g ∨ g = H) → K (a.put o.dst (.slice (some ⟨g, 0, none⟩) (n + m) cap)) w') :
    if Region.wanted o (yielded ops a.tmps) = true then Oper.wp P o a w K Q else E := by

  have hw : Region.wanted o (yielded ops a.tmps) = true := by simp [Region.wanted, hgd]
  rw [if_pos hw]
  obtain ⟨v', w', hr, h2, h3, h4, h5⟩ := run_append_own_at (P := P) w base t o.type e i z size bytes ht hi hz hsize hby hzs hsz v n xs hown ad m c news hl hnews h1 h63 hbytes hbase
  have hv : ∃ g cap, v' = .slice (some ⟨g, 0, none⟩) (n + m) cap := by
    rcases h2.2 with ⟨e0, e1⟩ | ⟨g, cap, cur, e0, _⟩
    · rcases hm with hm | hm
      · exact absurd (h4.1 e0).1 hm
      · omega
    · exact ⟨g, cap, e0⟩
  obtain ⟨g, cap, rfl⟩ := hv
  unfold Oper.wp execOp
  simp only [ho, resolve, invoke, builtin, Sem.run_bind, Sem.run_pure, Result.andThen_ok, List.map_toArray, List.map_cons, List.map_nil, hs, hx, hr]
  refine h g cap w' h2 h3 ?_
  rcases h5 with h5 | h5
  · exact .inl (by rw [← h5]; rfl)
  · right
    have : g = w.heap.size := by simpa [Value.ownBlock] using h5
    rw [this, hH]

theorem put6 {W : World} {b : Nat} {t : TypeId} {o0 o1 o2 o3 o4 o5 : Value} (h0 : W.heap[b]? = some (.cells #[o0, o1, o2, o3, o4, o5] t)) (v0 v1 v2 v3 v4 v5 : Value) :
    (W.cell? ⟨b, 0, none⟩ = some o0 ∧ W.frozen? ⟨b, 0, none⟩ = false) ∧ ((W.setCell ⟨b, 0, none⟩ v0).cell? ⟨b, 1, none⟩ = some o1 ∧ (W.setCell ⟨b, 0, none⟩ v0).frozen? ⟨b, 1, none⟩ = false) ∧ (((W.setCell ⟨b, 0, none⟩ v0).setCell ⟨b, 1, none⟩ v1).cell? ⟨b, 2, none⟩ = some o2 ∧ ((W.setCell ⟨b, 0, none⟩ v0).setCell ⟨b, 1, none⟩ v1).frozen? ⟨b, 2, none⟩ = false) ∧ ((((W.setCell ⟨b, 0, none⟩ v0).setCell ⟨b, 1, none⟩ v1).setCell ⟨b, 2, none⟩ v2).cell? ⟨b, 3, none⟩ = some o3 ∧ (((W.setCell ⟨b, 0, none⟩ v0).setCell ⟨b, 1, none⟩ v1).setCell ⟨b, 2, none⟩ v2).frozen? ⟨b, 3, none⟩ = false) ∧ (((((W.setCell ⟨b, 0, none⟩ v0).setCell ⟨b, 1, none⟩ v1).setCell ⟨b, 2, none⟩ v2).setCell ⟨b, 3, none⟩ v3).cell? ⟨b, 4, none⟩ = some o4 ∧ ((((W.setCell ⟨b, 0, none⟩ v0).setCell ⟨b, 1, none⟩ v1).setCell ⟨b, 2, none⟩ v2).setCell ⟨b, 3, none⟩ v3).frozen? ⟨b, 4, none⟩ = false) ∧ ((((((W.setCell ⟨b, 0, none⟩ v0).setCell ⟨b, 1, none⟩ v1).setCell ⟨b, 2, none⟩ v2).setCell ⟨b, 3, none⟩ v3).setCell ⟨b, 4, none⟩ v4).cell? ⟨b, 5, none⟩ = some o5 ∧ (((((W.setCell ⟨b, 0, none⟩ v0).setCell ⟨b, 1, none⟩ v1).setCell ⟨b, 2, none⟩ v2).setCell ⟨b, 3, none⟩ v3).setCell ⟨b, 4, none⟩ v4).frozen? ⟨b, 5, none⟩ = false) ∧ ((((((W.setCell ⟨b, 0, none⟩ v0).setCell ⟨b, 1, none⟩ v1).setCell ⟨b, 2, none⟩ v2).setCell ⟨b, 3, none⟩ v3).setCell ⟨b, 4, none⟩ v4).setCell ⟨b, 5, none⟩ v5).heap[b]? = some (.cells #[v0, v1, v2, v3, v4, v5] t) := by
  have h1 : (W.setCell ⟨b, 0, none⟩ v0).heap[b]? = some (.cells #[v0, o1, o2, o3, o4, o5] t) := by rw [heap_setCell_same _ b 0 _ _ _ h0]; rfl
  have h2 : ((W.setCell ⟨b, 0, none⟩ v0).setCell ⟨b, 1, none⟩ v1).heap[b]? = some (.cells #[v0, v1, o2, o3, o4, o5] t) := by rw [heap_setCell_same _ b 1 _ _ _ h1]; rfl
  have h3 : (((W.setCell ⟨b, 0, none⟩ v0).setCell ⟨b, 1, none⟩ v1).setCell ⟨b, 2, none⟩ v2).heap[b]? = some (.cells #[v0, v1, v2, o3, o4, o5] t) := by rw [heap_setCell_same _ b 2 _ _ _ h2]; rfl
  have h4 : ((((W.setCell ⟨b, 0, none⟩ v0).setCell ⟨b, 1, none⟩ v1).setCell ⟨b, 2, none⟩ v2).setCell ⟨b, 3, none⟩ v3).heap[b]? = some (.cells #[v0, v1, v2, v3, o4, o5] t) := by rw [heap_setCell_same _ b 3 _ _ _ h3]; rfl
  have h5 : (((((W.setCell ⟨b, 0, none⟩ v0).setCell ⟨b, 1, none⟩ v1).setCell ⟨b, 2, none⟩ v2).setCell ⟨b, 3, none⟩ v3).setCell ⟨b, 4, none⟩ v4).heap[b]? = some (.cells #[v0, v1, v2, v3, v4, o5] t) := by rw [heap_setCell_same _ b 4 _ _ _ h4]; rfl
  have h6 : ((((((W.setCell ⟨b, 0, none⟩ v0).setCell ⟨b, 1, none⟩ v1).setCell ⟨b, 2, none⟩ v2).setCell ⟨b, 3, none⟩ v3).setCell ⟨b, 4, none⟩ v4).setCell ⟨b, 5, none⟩ v5).heap[b]? = some (.cells #[v0, v1, v2, v3, v4, v5] t) := by rw [heap_setCell_same _ b 5 _ _ _ h5]; rfl
  exact ⟨⟨by rw [cell_of_row _ b 0 _ _ _ h0]; rfl, frozen_of_row _ b 0 _ _ h0⟩, ⟨by rw [cell_of_row _ b 1 _ _ _ h1]; rfl, frozen_of_row _ b 1 _ _ h1⟩, ⟨by rw [cell_of_row _ b 2 _ _ _ h2]; rfl, frozen_of_row _ b 2 _ _ h2⟩, ⟨by rw [cell_of_row _ b 3 _ _ _ h3]; rfl, frozen_of_row _ b 3 _ _ h3⟩, ⟨by rw [cell_of_row _ b 4 _ _ _ h4]; rfl, frozen_of_row _ b 4 _ _ h4⟩, ⟨by rw [cell_of_row _ b 5 _ _ _ h5]; rfl, frozen_of_row _ b 5 _ _ h5⟩, h6⟩

theorem info9 : (Tryd.prog.info? 9).map (fun i => (i.zero, i.size, i.bytes)) = some (some (.string ⟨#[]⟩), 1, 16) := by kernel_rfl
theorem size35 : (Tryd.prog.info? 35).map (·.size) = some 6 := by kernel_rfl
theorem one_str (x : ByteArray) : ∀ u ∈ [Value.string x], u.oneCell' = true := by intro u hu; simp at hu; subst hu; rfl
theorem own_kept {w w' : World} {B e sz n c : Nat} {p : Option Addr} {cs : List Value} (k : w.ownsRow B e sz (.slice p n c) n cs) (h : Kept w w') : w'.ownsRow B e sz (.slice p n c) n cs :=
  k.kept (h.grown none) (by cases p <;> simp [Value.ownBlock])
theorem sc_length (l : List ByteArray) : (sc l).length = l.length := List.length_map ..
theorem sc_at {l : List ByteArray} {j : Nat} {x : ByteArray} (h : l[j]? = some x) : (sc l)[j]? = some (.string x) := by unfold sc; rw [List.getElem?_map, h]; rfl
/-- Values in a block that is neither bytes nor a printer. -/
structure Rw (W : World) (p : Option Addr) (n : Nat) (cs : List Value) : Prop where
  out : n = 0 ∨ ∃ b o cur t fz, p = some ⟨b, o, none⟩ ∧ W.heap[b]? = some (.cells cur t fz) ∧ t ≠ 5 ∧ t ≠ 54 ∧ ∀ (j : Nat) (v : Value), cs[j]? = some v → cur[o + j]? = some v
/-- Texts in memory, in such a block. -/
structure Ay (w : World) (p : Option Addr) (n c : Nat) (l : List ByteArray) : Prop where
  len : l.length = n
  le : n ≤ c
  cap : c ≤ maxLen
  rw_ : Rw w p n (sc l)
theorem Ay.ag {w : World} {p : Option Addr} {n c : Nat} {l : List ByteArray} (h : Ay w p n c l) : Ag w p n c l :=
  ⟨h.len, h.le, h.cap, h.rw_.out.imp id fun ⟨b, o, cur, t, fz, e, hg, _, _, f⟩ => ⟨b, o, e, fun j x hx => by rw [cell_of_row w b (o + j) _ _ _ hg]; exact f j _ (sc_at hx)⟩⟩
/-- A row of one's own is such a block. -/
theorem rw_own {w : World} {B m : Nat} {t : TypeId} {p : Option Addr} {n c : Nat} {cs : List Value} (h1 : t ≠ 5) (h2 : t ≠ 54) (h : w.ownsRow B t m (.slice p n c) n cs) : n ≤ c ∧ c ≤ maxLen ∧ Rw w p n cs := by
  rcases h.2 with ⟨h3, h4⟩ | ⟨g, cap, cur, h3, hB, hg, hn, hm, hs, ht⟩
  · injection h3 with h3 h5 h6
    exact ⟨by omega, by rw [h6]; exact Nat.zero_le _, ⟨.inl h4⟩⟩
  · injection h3 with h3 _ h4
    subst h3
    subst h4
    refine ⟨hn, hm, ⟨.inr ⟨g, 0, cur, t, (0, 0), rfl, hg, h1, h2, fun j x hx => ?_⟩⟩⟩
    rw [← ht, List.getElem?_take] at hx
    rw [Nat.zero_add]
    split at hx
    · simpa using hx
    · cases hx
theorem ay_own {w : World} {B : Nat} {p : Option Addr} {n c : Nat} {l : List ByteArray} (h : w.ownsRow B 9 1 (.slice p n c) n (sc l)) : Ay w p n c l := by
  obtain ⟨h1, h2, h3⟩ := rw_own (by decide) (by decide) h
  exact ⟨by have := h.1; rw [sc_length, Nat.mul_one] at this; exact this, h1, h2, h3⟩
theorem grown_refl (w : World) (b : Nat) : w.grownBy w (some b) := ⟨rfl, rfl, rfl, Nat.le_refl _, fun _ _ _ => rfl⟩
theorem grown_set {W W' : World} {b : Nat} (h : W.grownBy W' (some b)) (j : Nat) (v : Value) : W.grownBy (W'.setCell ⟨b, j, none⟩ v) (some b) :=
  ⟨h.os, h.tape, h.output, by have := h.size; simp only [World.setCell, Array.size_modify]; exact this, fun k hk hne => (heap_setCell_other _ _ _ _ (fun e => hne (by rw [e]))).trans (h.block k hk hne)⟩
/-- The blocks of expr while its texts are made. -/
structure Xw (w : World) (g : Nat) (k op n : Int) (s t a b : ByteArray) (m : Int) (p : Option Addr) (i c : Nat) (W : World) : Prop where
  gv : g = w.heap.size + 2
  bx : W.heap[w.heap.size]? = some (.cells #[.int .i64 k, .int .i64 op, .int .i64 n, .string a, .string b, .int .i64 m] 32)
  bz : W.heap[w.heap.size + 1]? = some (.cells #[.int .i64 0, .string ⟨#[]⟩, .string ⟨#[]⟩, .int .i64 0, .int .i64 0, .slice none 0 0] 35)
  x : W.heap[g]? = some (.cells #[.int .i64 k, .string s, .string t, .int .i64 op, .int .i64 n, .slice p i c] 35)
  own : W.ownsRow (w.heap.size + 3) 9 1 (.slice p i c) i (sc (List.replicate i t))
  low : Kept w W
  size : w.heap.size + 3 ≤ W.heap.size
theorem Xw.start (w : World) (k op n : Int) (s t a b : ByteArray) (m : Int) : Xw w (w.heap.size + 1 + 1) k op n s t a b m none 0 0 (((w.alloc (.cells #[.int .i64 k, .int .i64 op, .int .i64 n, .string a, .string b, .int .i64 m] 32)).alloc (.cells #[.int .i64 0, .string ⟨#[]⟩, .string ⟨#[]⟩, .int .i64 0, .int .i64 0, .slice none 0 0] 35)).alloc (.cells #[.int .i64 k, .string s, .string t, .int .i64 op, .int .i64 n, .slice none 0 0] 35)).drew := by
  have k1 := Kept.alloc (Kept.refl (w.alloc (.cells #[.int .i64 k, .int .i64 op, .int .i64 n, .string a, .string b, .int .i64 m] 32))) (.cells #[.int .i64 0, .string ⟨#[]⟩, .string ⟨#[]⟩, .int .i64 0, .int .i64 0, .slice none 0 0] 35)
  have k2 := Kept.alloc (Kept.refl ((w.alloc (.cells #[.int .i64 k, .int .i64 op, .int .i64 n, .string a, .string b, .int .i64 m] 32)).alloc (.cells #[.int .i64 0, .string ⟨#[]⟩, .string ⟨#[]⟩, .int .i64 0, .int .i64 0, .slice none 0 0] 35))) (.cells #[.int .i64 k, .string s, .string t, .int .i64 op, .int .i64 n, .slice none 0 0] 35)
  refine ⟨rfl, ?_, ?_, ?_, World.ownsRow_nil _ _ _ _, (((Kept.refl w).alloc _).trans (k1.trans k2)).drew, ?_⟩
  · exact (k1.trans k2).drew.block (alloc_at w _)
  · have h := k2.drew.block (alloc_at (w.alloc (.cells #[.int .i64 k, .int .i64 op, .int .i64 n, .string a, .string b, .int .i64 m] 32)) (.cells #[.int .i64 0, .string ⟨#[]⟩, .string ⟨#[]⟩, .int .i64 0, .int .i64 0, .slice none 0 0] 35))
    rw [size_alloc] at h
    exact h
  · have h := alloc_at ((w.alloc (.cells #[.int .i64 k, .int .i64 op, .int .i64 n, .string a, .string b, .int .i64 m] 32)).alloc (.cells #[.int .i64 0, .string ⟨#[]⟩, .string ⟨#[]⟩, .int .i64 0, .int .i64 0, .slice none 0 0] 35)) (.cells #[.int .i64 k, .string s, .string t, .int .i64 op, .int .i64 n, .slice none 0 0] 35)
    rw [size_alloc, size_alloc] at h
    exact h
  · show _ ≤ (World.alloc _ _).heap.size
    rw [size_alloc, size_alloc, size_alloc]; omega
theorem Xw.cells {w W : World} {g : Nat} {k op n : Int} {s t a b : ByteArray} {m : Int} {p : Option Addr} {i c : Nat} (h : Xw w g k op n s t a b m p i c W) {W' : World} (q : Kept W W') :
    W'.cell? ⟨g, 5, none⟩ = some (.slice p i c) ∧ W'.cell? ⟨w.heap.size, 4, none⟩ = some (.string b) :=
  ⟨by rw [cell_of_row _ _ 5 _ _ _ (q.block h.x)]; rfl, by rw [cell_of_row _ _ 4 _ _ _ (q.block h.bx)]; rfl⟩
theorem Xw.stay {w W wa w1 : World} {g : Nat} {k op n : Int} {s t a b : ByteArray} {m : Int} {p : Option Addr} {i c : Nat} (h : Xw w g k op n s t a b m p i c W) (q : Kept W wa) (gr : wa.grownBy w1 (Value.slice p i c).ownBlock) :
    w1.cell? ⟨w.heap.size, 4, none⟩ = some (.string b) := by
  have hs := h.size
  have hq := q.size
  have h1 : w1.heap[w.heap.size]? = some (.cells #[.int .i64 k, .int .i64 op, .int .i64 n, .string a, .string b, .int .i64 m] 32) := by
    rw [gr.block _ (by omega) (fun e => by have := (h.own.lt _ e.symm).1; omega)]
    exact q.block h.bx
  rw [cell_of_row _ _ 4 _ _ _ h1]; rfl
/-- One text more. -/
theorem Xw.more {w W wa w1 : World} {g : Nat} {k op n : Int} {s t a b : ByteArray} {m : Int} {p : Option Addr} {i c : Nat} (h : Xw w g k op n s t a b m p i c W) (q : Kept W wa) {g1 cap : Nat} (o1 : w1.ownsRow (w.heap.size + 3) 9 1 (.slice (some ⟨g1, 0, none⟩) (i + 1) cap) (i + 1) (sc (List.replicate i t) ++ [.string t])) (gr : wa.grownBy w1 (Value.slice p i c).ownBlock) :
    w1.cell? ⟨g, 5, none⟩ = some (.slice p i c) ∧ w1.frozen? ⟨g, 5, none⟩ = false ∧ Xw w g k op n s t a b m (some ⟨g1, 0, none⟩) (i + 1) cap (w1.setCell ⟨g, 5, none⟩ (.slice (some ⟨g1, 0, none⟩) (i + 1) cap)) := by
  have hne : ∀ j, j < w.heap.size + 3 → some j ≠ (Value.slice p i c).ownBlock := fun j hj e => by
    have := (h.own.lt j e.symm).1
    omega
  have hs := h.size
  have hq := q.size
  have stay : ∀ {j : Nat} {o : Obj}, j < w.heap.size + 3 → W.heap[j]? = some o → w1.heap[j]? = some o := fun {j o} hj ho => by
    rw [gr.block j (by omega) (hne j hj)]
    exact q.block ho
  have hg := h.gv
  have hx1 := stay (by omega) h.x
  have hgl := (o1.lt g1 rfl).1
  refine ⟨by rw [cell_of_row _ _ 5 _ _ _ hx1]; rfl, frozen_of_row _ _ 5 _ _ hx1, ⟨hg, ?_, ?_, ?_, ?_, ?_, ?_⟩⟩
  · rw [heap_setCell_other _ _ _ _ (by show w.heap.size ≠ g; omega)]; exact stay (by omega) h.bx
  · rw [heap_setCell_other _ _ _ _ (by show w.heap.size + 1 ≠ g; omega)]; exact stay (by omega) h.bz
  · rw [heap_setCell_same _ _ 5 _ _ _ hx1]; rfl
  · have e : sc (List.replicate (i + 1) t) = sc (List.replicate i t) ++ [.string t] := by unfold sc; rw [List.replicate_succ', List.map_append]; rfl
    rw [e]
    refine o1.kept (row := some g) ⟨rfl, rfl, rfl, by simp [World.setCell], fun j _ hj => heap_setCell_other _ _ _ _ (fun e => hj (by rw [e]))⟩ (.inr ?_)
    simp only [Value.ownBlock]
    intro e
    injection e with e
    omega
  · exact ((⟨(h.low.trans q).out.grown gr (h.low.trans q).size (fun j hj => by have := (h.own.lt j hj).1; omega)⟩ : Kept w w1)).setCell (by show w.heap.size ≤ g; omega) _
  · have := gr.size
    show _ ≤ (w1.setCell _ _).heap.size
    simp only [World.setCell, Array.size_modify]
    omega


set_option maxRecDepth 100000 in
set_option maxHeartbeats 4000000 in
theorem made_walk (e : Ev) (he : Okv e) (w : World) :
    Calls Tryd.prog 9 #[.agg (ev e)] w fun x w' => ∃ p c, x = .returned (.agg #[.int .i64 e.k, .string (sho e.a), .string (sho e.b), .int .i64 e.op, .int .i64 e.n, .slice p (lw 2 e.m) c]) ∧ w'.ownsRow (w.heap.size + 3) 9 1 (.slice p (lw 2 e.m) c) (lw 2 e.m) (sc (List.replicate (lw 2 e.m) (sho e.b))) ∧ Kept w w' := by
  obtain ⟨i0, hi0, hz0, hz1, hz2⟩ := info_parts info9
  obtain ⟨k, op, n, a, b, m⟩ := e
  have ha := he.a
  have hb := he.b
  dsimp only at ha hb
  have hA : Hid (∀ W, Calls Tryd.prog 18 #[.string a] W fun e w' => e = .returned (.string (sho a)) ∧ w' = W) := fun W => short_walk a ha W
  have hB : Hid (∀ W, Calls Tryd.prog 18 #[.string b] W fun e w' => e = .returned (.string (sho b)) ∧ w' = W) := fun W => short_walk b hb W
  have hm : bits .and .i64 m 3 = ((lw 2 m : Nat) : Int) := lw_bits 2 3 (by decide) (by decide) m
  have hm4 := lw_lt 2 m
  have X0 := Xw.start w k op n (sho a) (sho b) a b m
  clear he ha hb
  unfold ev
  dsimp only at *
  generalize lw 2 m = q at *
  have HSA : Hid (∀ W, Kept ((w.alloc (.cells #[.int .i64 k, .int .i64 op, .int .i64 n, .string a, .string b, .int .i64 m] 32)).alloc (.cells #[.int .i64 0, .string ⟨#[]⟩, .string ⟨#[]⟩, .int .i64 0, .int .i64 0, .slice none 0 0] 35)) W → W.cell? ⟨w.heap.size, 0, none⟩ = some (.int .i64 k) ∧ W.cell? ⟨w.heap.size, 1, none⟩ = some (.int .i64 op) ∧ W.cell? ⟨w.heap.size, 2, none⟩ = some (.int .i64 n) ∧ W.cell? ⟨w.heap.size, 3, none⟩ = some (.string a) ∧ W.cell? ⟨w.heap.size, 4, none⟩ = some (.string b)) := fun W hW => by
    have hb := hW.block (Kept.block ((Kept.refl _).alloc _) (alloc_at w _))
    refine ⟨?_, ?_, ?_, ?_, ?_⟩
    · rw [cell_of_row _ w.heap.size 0 _ _ _ hb]; rfl
    · rw [cell_of_row _ w.heap.size 1 _ _ _ hb]; rfl
    · rw [cell_of_row _ w.heap.size 2 _ _ _ hb]; rfl
    · rw [cell_of_row _ w.heap.size 3 _ _ _ hb]; rfl
    · rw [cell_of_row _ w.heap.size 4 _ _ _ hb]; rfl
  obtain ⟨W0, hW0⟩ : ∃ W0, W0 = (((w.alloc (.cells #[.int .i64 k, .int .i64 op, .int .i64 n, .string a, .string b, .int .i64 m] 32)).alloc (.cells #[.int .i64 0, .string ⟨#[]⟩, .string ⟨#[]⟩, .int .i64 0, .int .i64 0, .slice none 0 0] 35)).alloc (.cells #[.int .i64 k, .string (sho a), .string (sho b), .int .i64 op, .int .i64 n, .slice none 0 0] 35)).drew := ⟨_, rfl⟩
  rw [← hW0] at X0
  have HX0 : Hid _ := X0
  clear X0
  go_enter Tryd.func9, Tryd.ntmps9
  go_wp2
  go_region_held3 (fun W => W.cell? ⟨w.heap.size, 0, none⟩ = some (.int .i64 k) ∧ W.cell? ⟨w.heap.size, 1, none⟩ = some (.int .i64 op) ∧ W.cell? ⟨w.heap.size, 2, none⟩ = some (.int .i64 n) ∧ W.cell? ⟨w.heap.size, 3, none⟩ = some (.string a) ∧ W.cell? ⟨w.heap.size, 4, none⟩ = some (.string b)) (exact HSA.out _ (by (repeat (first | (refine Kept.setCell ?_ (Kept.size ?_) _) | assumption | exact Kept.refl _ | apply Kept.drew | apply Kept.alloc)))) (first
    | (go_at_call 18; (with_reducible refine (hA.out _).mono ?_); rintro e w' ⟨rfl, rfl⟩)
    | (go_at_call 18; (with_reducible refine (hB.out _).mono ?_); rintro e w' ⟨rfl, rfl⟩))
  all_goals
    rw [← hW0]
    clear hW0 HSA
    generalize w.heap.size + 1 + 1 = g at *
    go_wp2
    go_loopg [4] q (fun g' iv wx => ∃ (i : Nat) (p : Option Addr) (c : Nat), i + g' = q ∧ iv = .int .i64 (i : Nat) ∧ Xw w g k op n (sho a) (sho b) a b m p i c wx)
    case atStart => exact ⟨0, none, 0, by omega, rfl, HX0.out⟩
    case round =>
      obtain ⟨i, p, c, hg, rfl, hX⟩ := hrel
      have H : Hid (Xw w g k op n (sho a) (sho b) a b m p i c wr) := hX
      have hbm : wr.cell? ⟨w.heap.size, 5, none⟩ = some (.int .i64 m) := by rw [cell_of_row _ _ 5 _ _ _ hX.bx]; rfl
      cases gk with
      | zero =>
        obtain rfl : i = q := by omega
        have hi2 : ¬ (i : Int) < (i : Nat) := by omega
        have x0 : wr.cell? ⟨g, 0, none⟩ = some (.int .i64 k) := by rw [cell_of_row _ _ 0 _ _ _ hX.x]; rfl
        have x1 : wr.cell? ⟨g, 1, none⟩ = some (.string (sho a)) := by rw [cell_of_row _ _ 1 _ _ _ hX.x]; rfl
        have x2 : wr.cell? ⟨g, 2, none⟩ = some (.string (sho b)) := by rw [cell_of_row _ _ 2 _ _ _ hX.x]; rfl
        have x3 : wr.cell? ⟨g, 3, none⟩ = some (.int .i64 op) := by rw [cell_of_row _ _ 3 _ _ _ hX.x]; rfl
        have x4 : wr.cell? ⟨g, 4, none⟩ = some (.int .i64 n) := by rw [cell_of_row _ _ 4 _ _ _ hX.x]; rfl
        have x5 : wr.cell? ⟨g, 5, none⟩ = some (.slice p i c) := by rw [cell_of_row _ _ 5 _ _ _ hX.x]; rfl
        obtain ⟨⟨r0, f0⟩, ⟨r1, f1⟩, ⟨r2, f2⟩, ⟨r3, f3⟩, ⟨r4, f4⟩, ⟨r5, f5⟩, fin⟩ := put6 hX.bz (.int .i64 k) (.string (sho a)) (.string (sho b)) (.int .i64 op) (.int .i64 n) (.slice p i c)
        have HF : Hid _ := fin
        clear hg hX fin
        go_wp2
        refine bodyPost_ret (v := .agg #[.int .i64 k, .string (sho a), .string (sho b), .int .i64 op, .int .i64 n, .slice p i c]) ?_ rfl ⟨p, c, rfl, ?_, ?_⟩
        · exact results_cell_row rfl _ _ (w.heap.size + 1) 35 _ (0, 0) _ rfl HF.out Tryd.underlying35 rfl size35
        · refine H.out.own.kept (grown_set (grown_set (grown_set (grown_set (grown_set (grown_set (grown_refl wr (w.heap.size + 1)) _ _) _ _) _ _) _ _) _ _) _ _) ?_
          cases hp : (Value.slice p i c).ownBlock with
          | none => exact .inl rfl
          | some j => exact .inr (fun e => by injection e with e; have := (H.out.own.lt j hp).1; omega)
        · exact (((((H.out.low.setCell (Nat.le_succ _) _).setCell (Nat.le_succ _) _).setCell (Nat.le_succ _) _).setCell (Nat.le_succ _) _).setCell (Nat.le_succ _) _).setCell (Nat.le_succ _) _
      | succ g' =>
        have hlt : (i : Int) < (q : Nat) := by omega
        have HG : Hid (i + g' + 1 = q) := by show i + g' + 1 = q; omega
        have hi4 : i < 4 := by omega
        obtain ⟨c5, c4⟩ := hX.cells (Kept.refl wr)
        have cA : ∀ o, (wr.alloc o).cell? ⟨g, 5, none⟩ = some (.slice p i c) := fun o => (hX.cells ((Kept.refl wr).alloc o)).1
        have kA : Kept wr (wr.alloc (.cells #[.string (sho b)] 9)) := (Kept.refl wr).alloc _
        have HN : Hid (∀ (j : Nat) (u : Value), [Value.string (sho b)][j]? = some u → (wr.alloc (.cells #[.string (sho b)] 9)).drew.cell? ((⟨wr.heap.size, 0, none⟩ : Addr).add j) = some u) := fun j u hu => by
          rw [Addr.add_lit, Nat.zero_add]
          match j, hu with
          | 0, hu => simp at hu; subst hu; exact (cell_of_row (wr.alloc (.cells #[.string (sho b)] 9)) _ 0 _ _ _ (alloc_at wr _)).trans rfl
        have HB : Hid (w.heap.size + 3 ≤ wr.heap.size) := hX.size
        clear hg hX
        go_wp2
        go_region_law (first
          | (refine step_append_any (by rfl) _ _ 33 (by rfl) (w.heap.size + 3) 9 i0 _ 1 16 Tryd.underlying33 hi0 hz0 hz1 hz2 (by rfl) (by decide) (.slice p i c) i (sc (List.replicate i (sho b))) (by rfl) (own_kept H.out.own kA.drew) ⟨wr.heap.size, 0, none⟩ 1 1 [.string (sho b)] (by rfl) (by rfl) HN.out (one_str (sho b)) (.inr (by decide)) (by unfold maxLen; omega) (by omega) (by have := HB.out; have := kA.drew.size; omega) _ rfl ?_
             intro g1 cap1 w1 o1 gr1 l1
             obtain ⟨y1, y2, y3⟩ := H.out.more kA.drew o1 gr1
             have HY : Hid _ := y3
             clear o1 gr1 l1 y3)
          | (go_simp; go_wp2_with (go_at_call 18; (with_reducible refine (hB.out _).mono ?_); rintro e w' ⟨rfl, rfl⟩)))
        all_goals go_wp2
        all_goals go_roundg g'
        all_goals (first | (case measure => omega) | skip)
        all_goals exact ⟨i + 1, _, _, by have := HG.out; omega, by go_num, HY.out⟩
end Go.Proofs.YtgdafolidifdoaaDoor.Tp
