/- The walk of the statement on many faults: it returns true. Conditions: errors.errorType and the library's table of powers of ten hold what the program's text lays. -/
import Derived.Test.YtbdlobmciemadaaDoorWalkI
namespace Go.Proofs.YtbdlobmciemadaaDoor
open Go.RowKit

theorem and7 (a : Int) : ∃ m : Nat, m < 8 ∧ bits .and .i64 a 7 = (m : Int) := by
  have h1 : (BitVec.ofInt 64 7).toNat = 2 ^ 3 - 1 := by decide
  have key : (BitVec.ofInt 64 a &&& BitVec.ofInt 64 7).toNat = (a % ((2 ^ 64 : Nat) : Int)).toNat % 2 ^ 3 := by
    rw [BitVec.toNat_and, BitVec.toNat_ofInt, h1, Nat.and_two_pow_sub_one_eq_mod]
  refine ⟨(a % ((2 ^ 64 : Nat) : Int)).toNat % 2 ^ 3, by omega, ?_⟩
  show IntKind.i64.wrap ((BitVec.ofInt 64 a &&& BitVec.ofInt 64 7).toNat : Nat) = _
  rw [key, IntKind.wrap_i64]
  omega

/-- The numbers k, k - 1 and on, down to 1. -/
def down : Nat → List Int
  | 0 => []
  | k + 1 => ((k : Int) + 1) :: down k

theorem down_length : ∀ k, (down k).length = k
  | 0 => rfl
  | k + 1 => by simp [down, down_length k]

theorem down_at : ∀ (k j : Nat), j < k → (down k)[j]? = some ((k : Int) - j)
  | 0, j, h => by omega
  | k + 1, 0, _ => by simp [down]
  | k + 1, j + 1, h => by
    simp only [down, List.getElem?_cons_succ]
    rw [down_at k j (by omega)]
    simp; omega

theorem Ch.shape {w : World} {l : List Nd} {v : Value} (h : Ch w l v) : v = .nilIface ∨ ∃ p, v = .iface 39 p := by
  cases l with
  | nil => exact .inl h
  | cons x r => exact .inr ⟨_, h.1⟩

/-- A chain with one fault more. -/
theorem Ch.more {w : World} {l : List Nd} {v : Value} (h : Ch w l v) (s : ByteArray) (c : Int) :
    Ch (w.alloc (.cells #[.string s, .int .i64 c, v] 50)) (⟨w.heap.size, s, c⟩ :: l) (.iface 39 (.pointer (some ⟨w.heap.size, 0, none⟩))) :=
  ⟨rfl, v, heap_alloc_new w _, Ch.kept ((Kept.refl w).alloc _) _ _ h⟩

set_option maxRecDepth 100000 in
set_option maxHeartbeats 1000000 in
theorem long_walk (a : Int) (w : World) (hd : Lds w) :
    Calls Tryd.prog 6 #[.int .i64 a] w fun e w' => e = .returned (.bool true) ∧ Kept w w' := by
  obtain ⟨m, hm, ea⟩ := and7 a
  have HD : Hid (Lds w) := hd
  clear hd
  go_enter Tryd.func6, Tryd.ntmps6
  go_wp2
  clear ea
  go_loopg [3, 5] (60 + m) (fun n err i wx => ∃ (k : Nat) (l : List Nd), k + n = 60 + m ∧ i = .int .i64 k ∧ Ch wx l err ∧ l.map (·.c) = down k ∧ Kept w wx)
  case atStart => exact ⟨0, [], by omega, rfl, rfl, rfl, Kept.refl _⟩
  case round =>
    obtain ⟨k, l, hkn, rfl, hch, hl, hk⟩ := hrel
    have HC : Hid (Ch wr l u3) := hch
    have HL : Hid (l.map (·.c) = down k) := hl
    have hsh := hch.shape
    clear hch hl
    by_cases hlt : k < 60 + m
    · have hb : (((k : Int) + 1) == 0) = false := by rw [beq_eq_false_iff_ne]; omega
      have HS : Hid (u3 = .nilIface ∨ ∃ p, u3 = .iface 39 p) := hsh
      clear hsh
      go_wp2_with (go_at_call 15; refine (new_walk _ _ _ HS.out _ hb).mono ?_; rintro e w' ⟨rfl, rfl⟩)
      obtain ⟨n, rfl⟩ : ∃ n, gk = n + 1 := ⟨gk - 1, by omega⟩
      go_roundg n
      case measure => omega
      case rel => exact ⟨k + 1, _, by omega, by go_num, HC.out.more _ _, by simp [down, HL.out], hk.alloc _⟩
    · obtain rfl : k = 60 + m := by omega
      have hll : l.length = 60 + m := by have := congrArg List.length HL.out; simpa [down_length] using this
      have hat : ∀ j, j < 60 + m → ∃ y, l[j]? = some y ∧ y.c = ((60 + m : Nat) : Int) - j := by
        intro j hj
        have h1 := down_at (60 + m) j hj
        rw [← HL.out, List.getElem?_map] at h1
        cases e : l[j]? with
        | none => rw [e] at h1; cases h1
        | some y => rw [e] at h1; exact ⟨y, rfl, by simpa using h1⟩
      have hcw := chain_walk l u3 wr HC.out (HD.out.kept hk)
      obtain ⟨n, hn⟩ : ∃ n, (l.take 64).length = n + 1 := ⟨(l.take 64).length - 1, by rw [List.length_take]; omega⟩
      have hn2 : n + 1 = min (60 + m) 64 := by rw [← hn, List.length_take, hll]; omega
      obtain ⟨y0, hy0, hc0⟩ := hat 0 (by omega)
      obtain ⟨y1, hy1, hc1⟩ := hat n (by omega)
      have hy0' : (l.take 64)[0]? = some y0 := by rw [List.getElem?_take, if_pos (by omega)]; exact hy0
      have hy1' : (l.take 64)[n]? = some y1 := by rw [List.getElem?_take, if_pos (by omega)]; exact hy1
      have t1 : (((n : Int) + 1) == min (60 + (m : Int)) 64) = true := by rw [beq_iff_eq]; omega
      have e0 : y0.c = 60 + (m : Int) := by rw [hc0]; simp
      have e1 : y1.c = max 1 (60 + (m : Int) - 64 + 1) := by rw [hc1]; omega
      generalize l.take 64 = lt at *
      have HY0 : Hid (lt[0]? = some y0) := hy0'
      have HY1 : Hid (lt[n]? = some y1) := hy1'
      have HE0 : Hid (y0.c = 60 + (m : Int)) := e0
      have HE1 : Hid (y1.c = max 1 (60 + (m : Int) - 64 + 1)) := e1
      have H2 : Hid (n + 1 = min (60 + m) 64) := hn2
      have hpos : 0 < lt.length := by omega
      have hn63 : n ≤ 63 := by omega
      clear hat hll HC HL hsh hy0 hy1 hc0 hc1 hy0' hy1' e0 e1 hn2
      go_wp2_with (first
        | (go_at_call 9; refine hcw.mono ?_; rintro e w1 ⟨v, rfl, hnum, hk1⟩; obtain ⟨g, cap, rfl, hcap, hrd⟩ := hnum.some hpos; have c0 := hrd _ _ HY0.out; have c1 := hrd _ _ HY1.out; rw [HE0.out] at c0; rw [HE1.out] at c1; clear hrd hcw)
        | (go_at_call 10; refine (awake_walk _ (HD.out.kept (hk.trans hk1))).mono ?_; rintro e w2 ⟨rfl, hk2⟩; have c0' := hk2.cell c0; have c1' := hk2.cell c1; clear c0 c1))
      go_ret
      exact ⟨rfl, (hk.trans hk1).trans hk2⟩
end Go.Proofs.YtbdlobmciemadaaDoor
