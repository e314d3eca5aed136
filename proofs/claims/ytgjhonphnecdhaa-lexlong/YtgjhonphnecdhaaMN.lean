/- The law on texts that are long. Condition: the number is one of 64 bits. -/
import Derived.Laws.BytesArg
import Derived.Laws.BitsAllLaws
import Derived.Laws.Bits64b
import Derived.Test.YtgjhonphnecdhaaML
namespace Go.Proofs.Ytgjhonphnecdhaa.Lx
open Go.ChangeShapes Go.WideShapes Go.ChangeAt Go.RowKit

/-- So many spaces. -/
def sp (m : Nat) : ByteArray := ⟨(List.replicate m 32).toArray⟩
theorem sp_size (m : Nat) : (sp m).size = m := by simp [sp, ByteArray.size]
theorem sp_bt {m k : Nat} (h : k < m) : bt (sp m) k = 32 := by
  unfold bt sp
  simp [h]
theorem sp_gp (m : Nat) : ∀ (n i : Nat), i + n = m → gp false (sp m) i = m
  | 0, i, h => by rw [gp_end (by rw [sp_size]; omega)]; omega
  | n + 1, i, h => by
    have hb := sp_bt (m := m) (k := i) (by omega)
    rw [gp_sp (by rw [sp_size]; omega) (by omega) (.inr (.inl hb))]
    exact sp_gp m n (i + 1) (by omega)
theorem sp_words (m : Nat) : words (sp m) = .ok [fin (sp m)] := by
  unfold words
  rw [sp_gp m m 0 (by omega), lx_end (by rw [sp_size]; exact Nat.le_refl _)]
theorem sp_nums (m : Nat) : strOfNums (List.replicate m 32) = sp m := by
  unfold strOfNums sp
  simp

/-- Bytes of which the first i are spaces. -/
structure Sp (w : World) (g m i : Nat) : Prop where
  out : ∃ cs, w.heap[g]? = some (.cells cs 5) ∧ cs.size = m ∧ ∀ j, j < i → cs[j]? = some (.int .u8 32)
theorem Sp.ready {w : World} {g m i : Nat} (h : Sp w g m i) (hi : i < m) : ∃ v, w.cell? ⟨g, i, none⟩ = some v ∧ w.frozen? ⟨g, i, none⟩ = false := by
  obtain ⟨cs, h1, h2, h3⟩ := h.out
  refine ⟨cs[i]'(by omega), ?_, frozen_of_row w g i _ _ h1⟩
  rw [cell_of_row w g i _ _ _ h1, Array.getElem?_eq_getElem]
theorem Sp.put {w : World} {g m i : Nat} (h : Sp w g m i) (hi : i < m) : Sp (w.setCell ⟨g, i, none⟩ (.int .u8 32)) g m (i + 1) := by
  obtain ⟨cs, h1, h2, h3⟩ := h.out
  refine ⟨cs.setIfInBounds i (.int .u8 32), heap_setCell_same w g i _ _ _ h1, by rw [Array.size_setIfInBounds]; exact h2, fun j hj => ?_⟩
  rw [Array.getElem?_setIfInBounds]
  by_cases e : i = j
  · subst e; rw [if_pos rfl, if_pos (by omega)]
  · rw [if_neg e]; exact h3 j (by omega)
theorem Sp.text {w : World} {g m : Nat} (h : Sp w g m m) : (convert 34 9 (.slice (some ⟨g, 0, none⟩) m m)).run Try.prog w = .ok (.string (sp m)) w := by
  obtain ⟨cs, h1, h2, h3⟩ := h.out
  rw [← sp_nums]
  refine run_convert_bytes_arg w 34 5 Try.underlying34 Try.underlying5 g 0 m m (List.replicate m (32 : Int)) (by simp) (fun j hj => ?_) 9 Try.underlying9
  rw [Nat.zero_add, cell_of_row w g j _ _ _ h1, h3 j hj]
  simp [List.getD, hj]
theorem info5 : (Try.prog.info? 5).map (fun i => (i.zero, i.size, i.bytes)) = some (some (.int .u8 0), 1, 1) := by kernel_rfl
theorem sp_made (w : World) (m : Nat) (hm : m ≤ 100000) : ∃ w1, (Instr.makeSlice 34 (.int .i64 (m : Nat)) (.int .i64 (m : Nat))).run Try.prog w = .ok (.slice (some ⟨w.heap.size, 0, none⟩) m m) w1 ∧ Sp w1 w.heap.size m 0 ∧ Kept w w1 := by
  obtain ⟨i, hi, hz, hs, hby⟩ := info_parts info5
  obtain ⟨w1, mk, ow, gw⟩ := run_makeSlice_full (P := Try.prog) w w.heap.size 34 5 i _ 1 Try.underlying34 hi hz hs .i64 .i64 m (by omega) (by rw [hby]; omega) (by unfold maxLen; omega) (Nat.le_refl _)
  refine ⟨w1, mk, ?_, ⟨(Below.refl _ w).grown gw (Nat.le_refl _) (fun _ e => by cases e)⟩⟩
  rcases ow.2 with ⟨h1, _⟩ | ⟨g, cap, cur, h1, hB, hg, hn, hm', hsz, ht⟩
  · injection h1 with h1; cases h1
  · injection h1 with h1 h3 h4
    injection h1 with h1
    injection h1 with h1
    subst h1
    subst h4
    exact ⟨cur, hg, by rw [hsz, Nat.mul_one], fun j hj => absurd hj (Nat.not_lt_zero j)⟩

theorem low3 (x : Int) : ∃ v : Nat, v ≤ 3 ∧ bits .and .i64 x 3 = (v : Int) := by
  have key : (BitVec.ofInt 64 x &&& BitVec.ofInt 64 3).toNat ≤ 3 := by
    rw [BitVec.toNat_and]
    exact Nat.le_trans Nat.and_le_right (by decide)
  refine ⟨(BitVec.ofInt 64 x &&& BitVec.ofInt 64 3).toNat, key, ?_⟩
  show IntKind.i64.wrap ((BitVec.ofInt 64 x &&& BitVec.ofInt 64 3).toNat : Nat) = _
  rw [IntKind.wrap_i64]
  omega

set_option maxRecDepth 100000 in
set_option maxHeartbeats 1000000 in
theorem long_law (n : Int) (w : World) :
    Calls Try.prog 6 #[.int .i64 n] w fun e w' => e = .returned (.bool true) ∧ Kept w w' := by
  obtain ⟨r, hr, er⟩ := low3 n
  obtain ⟨m, hm⟩ : ∃ m, m = 32768 + r := ⟨_, rfl⟩
  have em : (32768 : Int) + (r : Nat) = (m : Nat) := by omega
  have hm2 : m ≤ 32771 := by omega
  obtain ⟨w1, mk, S1, k1⟩ := sp_made w m (by omega)
  have f2 := fun W => awake_walk W
  have HS : Hid (Sp w1 w.heap.size m 0 ∧ Kept w w1) := ⟨S1, k1⟩
  obtain ⟨k, c, a, hk0, hk1, hf⟩ : ∃ (k : Nat) (c a : Int), (r = 0 → k = 1 ∧ c = 0 ∧ a = 0) ∧ (r ≠ 0 → k = 0 ∧ c = 184 ∧ a = 32768) ∧ ∀ W, Calls Try.prog 7 #[.string (sp m)] W fun e w' => (∃ p q, e = .returned (.tuple #[.slice p k q, .agg #[.int .i64 c, .int .i64 a]]) ∧ k ≤ q ∧ q ≤ 9223372036854775807) ∧ Kept W w' := by
    by_cases h0 : r = 0
    · refine ⟨1, 0, 0, fun _ => ⟨rfl, rfl, rfl⟩, fun h => absurd h0 h, fun W => (lex_walk (sp m) (by rw [sp_size]; omega) W).mono fun e w' h => ⟨?_, h.2⟩⟩
      have hl := h.1
      unfold Ls at hl
      rw [sp_words] at hl
      obtain ⟨p, q, e1, T⟩ := hl
      exact ⟨p, q, e1, T.le, T.small.2⟩
    · refine ⟨0, 184, 32768, fun h => absurd h h0, fun _ => ⟨rfl, rfl, rfl⟩, fun W => (lex_long (sp m) (by rw [sp_size]; omega) (by rw [sp_size]; omega) W).mono fun e w' h => ⟨⟨none, 0, h.1, Nat.le_refl _, by omega⟩, h.2⟩⟩
  clear S1 k1 hm
  go_enter Try.func6, Try.ntmps6
  go_wp2
  clear mk
  go_loopg [4] m (fun g iv wx => ∃ i : Nat, i + g = m ∧ Hid (Sp wx w.heap.size m i ∧ Kept w wx) ∧ iv = .int .i64 (i : Nat))
  case atStart => exact ⟨0, by omega, HS.out, rfl⟩
  case round =>
    obtain ⟨i, hg, HI, rfl⟩ := hrel
    clear HS
    cases gk with
    | zero =>
      have him : i = m := by omega
      have hS : Hid (Sp wr w.heap.size m m ∧ Kept w wr) := by rw [him] at HI; exact HI
      have hlt : ¬ (i : Int) < (m : Nat) := by omega
      have hcv := hS.out.1.text
      clear hg HI him
      generalize sp m = t at *
      by_cases h0 : r = 0
      · obtain ⟨rfl, rfl, rfl⟩ := hk0 h0
        subst h0
        clear hk0 hk1
        go_wp2_with (first
          | (go_at_call 7; (with_reducible refine (hf _).mono ?_); rintro e w3 ⟨⟨p3, q3, rfl, hq, hq2⟩, k3⟩; have Z3 : Hid (F2 (w3.alloc (.cells #[.int .i64 0, .int .i64 0] 25)) w3.heap.size 0 0 ∧ Kept w (w3.alloc (.cells #[.int .i64 0, .int .i64 0] 25))) := ⟨F2.made w3 0 0, (hS.out.2.trans k3).alloc _⟩; clear k3)
          | (go_at_call 10; (with_reducible refine (f2 _).mono ?_); rintro e w5 ⟨rfl, k5⟩; obtain ⟨a0, a1⟩ := (Z3.out.1.kept k5).cs; have K5 : Hid (Kept w w5) := Z3.out.2.trans k5; clear k5))
        go_ret
        exact ⟨rfl, K5.out⟩
      · obtain ⟨rfl, rfl, rfl⟩ := hk1 h0
        have t0 : ((r : Int) == 0) = false := by simp; omega
        clear hk0 hk1 h0
        go_wp2_with (first
          | (go_at_call 7; (with_reducible refine (hf _).mono ?_); rintro e w3 ⟨⟨p3, q3, rfl, hq, hq2⟩, k3⟩; have Z3 : Hid (F2 (w3.alloc (.cells #[.int .i64 184, .int .i64 32768] 25)) w3.heap.size 184 32768 ∧ Kept w (w3.alloc (.cells #[.int .i64 184, .int .i64 32768] 25))) := ⟨F2.made w3 184 32768, (hS.out.2.trans k3).alloc _⟩; clear k3)
          | (go_at_call 10; (with_reducible refine (f2 _).mono ?_); rintro e w5 ⟨rfl, k5⟩; obtain ⟨a0, a1⟩ := (Z3.out.1.kept k5).cs; have K5 : Hid (Kept w w5) := Z3.out.2.trans k5; clear k5))
        go_ret
        exact ⟨rfl, K5.out⟩
    | succ g =>
      have hi : i < m := by omega
      have HG : Hid (i + g + 1 = m) := by show i + g + 1 = m; omega
      have hlt : (i : Int) < (m : Nat) := by omega
      obtain ⟨v, c0, c1⟩ := HI.out.1.ready hi
      have Z : Hid (Sp (wr.setCell ⟨w.heap.size, i, none⟩ (.int .u8 32)) w.heap.size m (i + 1) ∧ Kept w (wr.setCell ⟨w.heap.size, i, none⟩ (.int .u8 32))) := ⟨HI.out.1.put hi, HI.out.2.setCell (p := ⟨w.heap.size, i, none⟩) (Nat.le_refl _) _⟩
      clear hg HI hk0 hk1
      go_wp2
      go_roundg g
      case measure => omega
      case rel => exact ⟨i + 1, by have := HG.out; omega, Z, by go_num⟩
end Go.Proofs.Ytgjhonphnecdhaa.Lx
