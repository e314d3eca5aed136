/- Rows of texts that are cut at their beginning, and grow; the lowest bits of a number; first bytes of a text. Conditions: those that each row names. -/
import Derived.ArgAppend
import Derived.Laws.Bits64b
import Derived.Deep.CutRange
import Derived.Test.YtbpelhfbgjplbaaJU
namespace Go.Proofs.Ytbpelhfbgjplbaa.Ca
open Go.ChangeShapes Go.WideShapes Go.ChangeAt Go.RowKit
open N (Kept)
open Q (kept_cell Kv Vn Km m_get m_put m_del Own sc one_cellA one_str)
variable {E : Nat → Prop} {X : List En}

theorem low (k m : Nat) (hk : k ≤ 10) (h1 : (BitVec.ofInt 64 (m : Int)).toNat = 2 ^ k - 1) (a : Int) : ∃ x : Nat, x < 2 ^ k ∧ bits .and .i64 a m = (x : Int) := by
  have key : (BitVec.ofInt 64 a &&& BitVec.ofInt 64 m).toNat = (a % ((2 ^ 64 : Nat) : Int)).toNat % 2 ^ k := by
    rw [BitVec.toNat_and, BitVec.toNat_ofInt, h1, Nat.and_two_pow_sub_one_eq_mod]
  have hp : 2 ^ k ≤ 2 ^ 10 := Nat.pow_le_pow_right (by decide) hk
  have hl := Nat.mod_lt (a % ((2 ^ 64 : Nat) : Int)).toNat (Nat.two_pow_pos k)
  refine ⟨(a % ((2 ^ 64 : Nat) : Int)).toNat % 2 ^ k, hl, ?_⟩
  show IntKind.i64.wrap ((BitVec.ofInt 64 a &&& BitVec.ofInt 64 m).toNat : Nat) = _
  rw [key, IntKind.wrap_i64]
  omega

/-- A text's first bytes. -/
def cut (n : Nat) (s : ByteArray) : ByteArray := s.extract 0 (min s.size n)
theorem cut_size (n : Nat) (s : ByteArray) : (cut n s).size ≤ n := by
  unfold cut
  rw [ByteArray.size_extract]
  omega

/-- A row of texts, from somewhere in a block of one's own. -/
structure Rt (w : World) (B : Nat) (p : Option Addr) (n c : Nat) (l : List ByteArray) : Prop where
  len : l.length = n
  le : n ≤ c
  cap : c ≤ maxLen
  out : (p = none ∧ c = 0) ∨ ∃ g off cur, p = some ⟨g, off, none⟩ ∧ B ≤ g ∧ w.heap[g]? = some (.cells cur 9) ∧ off + c ≤ cur.size ∧ ∀ j x, l[j]? = some x → cur[off + j]? = some (.string x)
theorem Rt.kept {w w' : World} {B : Nat} {p : Option Addr} {n c : Nat} {l : List ByteArray} (h : Rt w B p n c l) (k : Kept w w') : Rt w' B p n c l :=
  ⟨h.len, h.le, h.cap, h.out.imp id fun ⟨g, off, cur, a, b, d, e⟩ => ⟨g, off, cur, a, b, k.block d, e⟩⟩
theorem Rt.of {w : World} {B : Nat} {p : Option Addr} {n c : Nat} {l : List ByteArray} (h : Own w B p n c l) : Rt w B p n c l := by
  have hl := h.len
  rcases h.out.2 with ⟨h1, h2⟩ | ⟨g, cap, cur, h1, hB, hg, hn, hm, hs, ht⟩
  · injection h1 with h1 h3 h2
    subst h1
    exact ⟨hl, by omega, by rw [h2]; exact Nat.zero_le _, .inl ⟨rfl, h2⟩⟩
  · injection h1 with h1 _ h2
    subst h1
    subst h2
    refine ⟨hl, hn, hm, .inr ⟨g, 0, cur, rfl, hB, hg, by omega, fun j x hx => ?_⟩⟩
    have := Q.sc_at hx
    rw [← ht, List.getElem?_take] at this
    rw [Nat.zero_add]
    split at this
    · simpa using this
    · cases this
theorem Rt.at {w : World} {B : Nat} {p : Option Addr} {n c : Nat} {l : List ByteArray} (h : Rt w B p n c l) : ∃ g off, (0 < n → p = some ⟨g, off, none⟩) ∧ ∀ j x, l[j]? = some x → w.cell? ⟨g, off + j, none⟩ = some (.string x) := by
  have hl := h.len
  have hle := h.le
  rcases h.out with ⟨h1, h2⟩ | ⟨g, off, cur, h1, hB, hg, hs, hc⟩
  · exact ⟨0, 0, fun h0 => (by omega), fun j x hx => by have := (List.getElem?_eq_some_iff.1 hx).1; omega⟩
  · exact ⟨g, off, fun _ => h1, fun j x hx => by rw [cell_of_row w g _ _ _ _ hg]; exact hc j x hx⟩
/-- Without the first one. -/
theorem Rt.tail {w : World} {B : Nat} {p : Option Addr} {n c : Nat} {l : List ByteArray} (h : Rt w B p n c l) (hn : 1 ≤ n) : ∃ g off, p = some ⟨g, off, none⟩ ∧ ∃ ad, (if c = 1 then (some ⟨g, off, none⟩ : Option Addr) else some ⟨g, off + 1, none⟩) = some ad ∧ Rt w B (some ad) (n - 1) (c - 1) l.tail := by
  have hl := h.len
  have hle := h.le
  have hcap := h.cap
  rcases h.out with ⟨h1, h2⟩ | ⟨g, off, cur, h1, hB, hg, hs, hc⟩
  · omega
  · by_cases h0 : c = 1
    · refine ⟨g, off, h1, ⟨g, off, none⟩, if_pos h0, ⟨by rw [List.length_tail]; omega, by omega, by omega, .inr ⟨g, off, cur, rfl, hB, hg, by omega, fun j x hx => ?_⟩⟩⟩
      have := (List.getElem?_eq_some_iff.1 hx).1
      rw [List.length_tail] at this
      omega
    · refine ⟨g, off, h1, ⟨g, off + 1, none⟩, if_neg h0, ⟨by rw [List.length_tail]; omega, by omega, by omega, .inr ⟨g, off + 1, cur, rfl, hB, hg, by omega, fun j x hx => ?_⟩⟩⟩
      rw [List.getElem?_tail] at hx
      have := hc (j + 1) x hx
      rwa [show off + (j + 1) = off + 1 + j by omega] at this
theorem setCells_one (w : World) (g o : Nat) (v : Value) : w.setCells g o [v] = w.setCell ⟨g, o, none⟩ v := rfl
/-- One more, in place or in a new block. -/
theorem Rt.more {w : World} {B : Nat} {p : Option Addr} {n c : Nat} {l : List ByteArray} (h : Rt w B p n c l) (hB : B ≤ w.heap.size) (hn : n ≤ 1000) (x : ByteArray) {b : Nat} (hx : ∀ (j : Nat) (u : Value), [Value.string x][j]? = some u → w.cell? ((⟨b, 0, none⟩ : Addr).add j) = some u) (ty : TypeId) :
    ∃ v' w', (Builtin.append_ #[24, 24] ty #[.slice p n c, .slice (some ⟨b, 0, none⟩) 1 1]).run Try.prog w = .ok v' w' ∧ ∃ p' c', v' = .slice p' (n + 1) c' ∧ Rt w' B p' (n + 1) c' (l ++ [x]) ∧ w.grownBy w' (p.map Addr.block) := by
  obtain ⟨i0, hi0, hz0, hz1, hz2⟩ := info_parts Q.info9
  have hl := h.len
  have hle := h.le
  have hcap := h.cap
  rcases h.out with ⟨rfl, rfl⟩ | ⟨g, off, cur, rfl, hBg, hg, hs, hc⟩
  · obtain rfl : n = 0 := by omega
    obtain rfl : l = [] := List.eq_nil_of_length_eq_zero hl
    obtain ⟨v', w', hr, ho, hgr, _⟩ := run_append_own (P := Try.prog) w B 24 ty 9 i0 _ 1 16 Try.underlying24 hi0 hz0 hz1 hz2 rfl (by decide) (.slice none 0 0) 0 [] (World.ownsRow_nil w B 9 1) ⟨b, 0, none⟩ 1 1 [.string x] rfl hx (one_str x) (by unfold maxLen; omega) (by omega) hB
    obtain ⟨p', c', rfl⟩ : ∃ p cap, v' = .slice p (0 + 1) cap := by
      rcases ho.2 with ⟨rfl, e⟩ | ⟨g, cap, cur, rfl, _⟩
      · omega
      · exact ⟨_, _, rfl⟩
    exact ⟨_, w', hr, p', c', rfl, Rt.of ⟨ho⟩, hgr⟩
  · by_cases hroom : n + 1 ≤ c
    · have hsz : off + n < cur.size := by omega
      have hcell : w.cell? ⟨g, off + n * i0.size + 0, none⟩ = some cur[off + n] := by
        rw [hz1, Nat.mul_one, Nat.add_zero, cell_of_row w g _ _ _ _ hg]
        exact Array.getElem?_eq_getElem hsz
      have hr := run_append_room_cells (P := Try.prog) w 24 ty 9 i0 Try.underlying24 hi0 g off n c ⟨b, 0, none⟩ 1 1 [.string x] (by rw [hz1]; rfl) hx (one_str x) hroom
        (fun j hj => by obtain rfl : j = 0 := by simp at hj; omega
                        rw [hcell]; rfl)
        (fun j hj => frozen_of_row w g _ _ _ hg)
      rw [hz1, Nat.mul_one, setCells_one] at hr
      refine ⟨_, _, hr, _, c, rfl, ⟨by rw [List.length_append, hl]; rfl, hroom, hcap, .inr ⟨g, off, cur.setIfInBounds (off + n) (.string x), rfl, hBg, ?_, by simpa using hs, fun j y hy => ?_⟩⟩, ?_⟩
      · rw [heap_setCell_same w g (off + n) _ _ _ hg]
      · rw [Array.getElem?_setIfInBounds]
        by_cases e : off + n = off + j
        · have ej : n = j := by omega
          subst ej
          rw [if_pos rfl, if_pos hsz]
          rw [← hl, List.getElem?_concat_length] at hy
          injection hy with hy; rw [hy]
        · rw [if_neg e]
          have hj : j < l.length := by
            have := (List.getElem?_eq_some_iff.1 hy).1
            rw [List.length_append, List.length_singleton] at this
            omega
          rw [List.getElem?_append_left hj] at hy
          exact hc j y hy
      · refine ⟨rfl, rfl, rfl, by simp [World.setCell], fun k hk hne => heap_setCell_other w ⟨g, off + n, none⟩ k _ (fun e => hne ?_)⟩
        simp only [Option.map_some, Option.some.injEq]
        exact e
    · obtain ⟨v', w', hr, ho, hgr⟩ := run_append_arg_grows (P := Try.prog) w 24 ty 9 i0 _ 1 16 Try.underlying24 hi0 hz0 hz1 hz2 rfl (by decide) ⟨g, off, none⟩ n c (sc l) (by rw [Q.sc_length, hl, Nat.mul_one])
        (fun j u hu => by
          rw [Addr.add_lit]
          unfold Q.sc at hu
          rw [List.getElem?_map, Option.map_eq_some_iff] at hu
          obtain ⟨y, hy, rfl⟩ := hu
          rw [cell_of_row w g _ _ _ _ hg]
          exact hc j y hy)
        ⟨b, 0, none⟩ 1 1 [.string x] rfl hx (by omega) (by unfold maxLen; omega) (by omega)
      obtain ⟨p', c', rfl⟩ : ∃ p cap, v' = .slice p (n + 1) cap := by
        rcases ho.2 with ⟨rfl, e⟩ | ⟨g, cap, cur, rfl, _⟩
        · omega
        · exact ⟨_, _, rfl⟩
      have own : Own w' w.heap.size p' (n + 1) c' (l ++ [x]) := ⟨by rw [Q.sc_append]; exact ho⟩
      refine ⟨_, w', hr, p', c', rfl, Rt.of (own.mono hB), ⟨hgr.os, hgr.tape, hgr.output, hgr.size, fun k hk _ => hgr.block k hk (by simp)⟩⟩
/-- .. for the walk. -/
theorem wpList_append_rt {P : Program} (w : World) {ops : Array Oper} {rest : List Oper} {o : Oper} {a : Act} {Q : Exit → Act → World → Prop} (hgd : o.guard = none) (s x : Operand) (t : TypeId)
    (ho : o.op = .call { callee := .builtin .append, args := #[s, x], argTypes := #[t, t] }) (v xv : Value) (hs : a.eval s = v) (hx : a.eval x = xv) {R : Value → World → Prop}
    (hr : ∀ ty, ∃ v' w', (Builtin.append_ #[t, t] ty #[v, xv]).run P w = .ok v' w' ∧ R v' w') (hK : ∀ v' w', R v' w' → wpList P ops Q rest (a.put o.dst v') w') : wpList P ops Q (o :: rest) a w := by
  refine wpList_plain hgd fun K hK' => ?_
  obtain ⟨v', w', hrun, r⟩ := hr o.type
  unfold Oper.wp
  simp [execOp, ho, resolve, invoke, builtin, hs, hx, hrun, Result.andThen]
  exact hK' _ _ (hK v' w' r)
end Go.Proofs.Ytbpelhfbgjplbaa.Ca
