/- The statement's keys and texts as an interface: what Get, Put and Delete do to them as a function. Conditions: those that each row names. -/
import Derived.Test.YtabbfoaojmhajaaQDb
import Derived.Test.YtabbfoaojmhajaaQEb
namespace Go.Proofs.Ytabbfoaojmhajaa.Q
open Go.ChangeShapes Go.WideShapes Go.ChangeAt Go.RowKit
open N (Kept bs numL keyL Small)

theorem Kv.congr {w : World} {B b m : Nat} {f g : ByteArray → Option ByteArray} (h : Kv w B b m f) (e : ∀ k, g k = f k) : Kv w B b m g := by
  obtain ⟨M, p, q, c, d, h1, h2⟩ := h.out
  exact ⟨M, p, q, c, d, h1, fun k => (e k).trans (h2 k)⟩
theorem Kv.more {w : World} {B b m : Nat} {f : ByteArray → Option ByteArray} (h : Kv w B b m f) : ∃ m', m' ≤ m + 1 ∧ Kv w B b m' f := ⟨m, Nat.le_succ _, h⟩
theorem first_or (k : ByteArray) : ∀ M : List (ByteArray × ByteArray), (∀ e ∈ M, e.1 ≠ k) ∨ ∃ (i : Nat) (x : ByteArray × ByteArray), M[i]? = some x ∧ x.1 = k ∧ ∀ e ∈ M.take i, e.1 ≠ x.1
  | [] => .inl fun e he => by cases he
  | a :: r => by
    by_cases h : a.1 = k
    · exact .inr ⟨0, a, rfl, h, fun e he => by simp at he⟩
    · rcases first_or k r with h1 | ⟨i, x, h1, h2, h3⟩
      · exact .inl fun e he => by
          rcases List.mem_cons.1 he with rfl | he
          · exact h
          · exact h1 e he
      · refine .inr ⟨i + 1, x, by simpa using h1, h2, fun e he => ?_⟩
        rw [List.take_succ_cons] at he
        rcases List.mem_cons.1 he with rfl | he
        · rw [h2]; exact h
        · exact h3 e he
theorem put_walk {w : World} {B b m : Nat} {f : ByteArray → Option ByteArray} (h : Kv w B b m f) (hm : m ≤ 1000) (hB : B ≤ w.heap.size) (k t : ByteArray) :
    Calls Try.prog 50 #[.pointer (some ⟨b, 0, none⟩), .string k, .string t] w fun e w' => e = .returned (.int .i64 0) ∧ (∃ m', m' ≤ m + 1 ∧ Kv w' B b m' (put f k t)) ∧ Vn B w w' := by
  obtain ⟨M, p, q, c, d, h1, h2⟩ := h.out
  have e : ∀ x, put f k t x = put (fun k => got k M) k t x := fun x => by unfold put; rw [h2]
  rcases first_or k M with h3 | ⟨i, x, h3, rfl, h5⟩
  · refine (put_new h1 hm hB k t h3).mono ?_
    rintro r w' ⟨rfl, a, v⟩
    exact ⟨rfl, ⟨_, Nat.le_refl _, a.congr e⟩, v⟩
  · refine (put_old h1 h3 h5 t).mono ?_
    rintro r w' ⟨rfl, a, v⟩
    exact ⟨rfl, ⟨_, Nat.le_succ _, a.congr e⟩, v⟩
theorem del_walk {w : World} {B b m : Nat} {f : ByteArray → Option ByteArray} (h : Kv w B b m f) (hm : m ≤ 1000) (hB : B ≤ w.heap.size) (k : ByteArray) :
    Calls Try.prog 48 #[.pointer (some ⟨b, 0, none⟩), .string k] w fun e w' => (∃ is, e = .returned (.tuple #[.bool is, .int .i64 0])) ∧ (∃ m', m' ≤ m ∧ Kv w' B b m' (del f k)) ∧ Vn B w w' := by
  obtain ⟨M, p, q, c, d, h1, h2⟩ := h.out
  have e : ∀ x, del f k x = del (fun k => got k M) k x := fun x => by unfold del; rw [h2]
  rcases first_or k M with h3 | ⟨i, x, h3, rfl, h5⟩
  · refine (del_no h1 k h3).mono ?_
    rintro r w' ⟨rfl, rfl⟩
    refine ⟨⟨_, rfl⟩, ⟨_, Nat.le_refl _, h.congr fun x => ?_⟩, Vn.refl _ _⟩
    by_cases hx : x = k
    · subst hx; rw [del_eq, h2, got_no h3]
    · rw [del_ne _ hx]
  · refine (del_yes h1 hm hB h3 h5).mono ?_
    rintro r w' ⟨rfl, a, v⟩
    exact ⟨⟨_, rfl⟩, ⟨_, Nat.sub_le _ _, a.congr e⟩, v⟩

/-- A queue in memory. -/
structure Qa (w : World) (a b : Nat) (nm : List Nat) : Prop where
  out : w.heap[a]? = some (.cells #[.iface 23 (.pointer (some ⟨b, 0, none⟩)), .string (bs nm)] 51)
theorem Qa.c0 {w : World} {a b : Nat} {nm : List Nat} (h : Qa w a b nm) : w.cell? ⟨a, 0, none⟩ = some (.iface 23 (.pointer (some ⟨b, 0, none⟩))) := by rw [cell_of_row w a 0 _ _ _ h.out]; rfl
theorem Qa.c1 {w : World} {a b : Nat} {nm : List Nat} (h : Qa w a b nm) : w.cell? ⟨a, 1, none⟩ = some (.string (bs nm)) := by rw [cell_of_row w a 1 _ _ _ h.out]; rfl
theorem Qa.vn {w w' : World} {B a b : Nat} {nm : List Nat} (h : Qa w a b nm) (v : Vn B w w') : Qa w' a b nm := ⟨v.oth _ _ _ _ h.out (by decide) (by decide)⟩
theorem Qa.kept {w w' : World} {a b : Nat} {nm : List Nat} (h : Qa w a b nm) (k : Kept w w') : Qa w' a b nm := ⟨k.block h.out⟩

theorem m_get (w : World) (b : Nat) : (method 195 23 (.pointer (some ⟨b, 0, none⟩)) "Get").run Try.prog w = .ok (49, .pointer (some ⟨b, 0, none⟩)) w := by kernel_rfl
theorem m_put (w : World) (b : Nat) : (method 195 23 (.pointer (some ⟨b, 0, none⟩)) "Put").run Try.prog w = .ok (50, .pointer (some ⟨b, 0, none⟩)) w := by kernel_rfl
theorem m_del (w : World) (b : Nat) : (method 195 23 (.pointer (some ⟨b, 0, none⟩)) "Delete").run Try.prog w = .ok (48, .pointer (some ⟨b, 0, none⟩)) w := by kernel_rfl

set_option maxRecDepth 100000 in
theorem new_walk (t : TypeId) (v : Value) (s : ByteArray) (w : World) :
    Calls Try.prog 6 #[.iface t v, .string s] w fun e w' => e = .returned (.pointer (some ⟨w.heap.size, 0, none⟩)) ∧ w' = w.alloc (.cells #[.iface t v, .string s] 51) := by
  go_enter Try.func6, Try.ntmps6
  go_wp2
  go_ret
  exact ⟨rfl, rfl⟩
set_option maxRecDepth 100000 in
theorem new_nil (s : ByteArray) (w : World) :
    Calls Try.prog 6 #[.nilIface, .string s] w fun e w' => e = .returned (.pointer (some ⟨w.heap.size, 0, none⟩)) ∧ w' = w.alloc (.cells #[.nilIface, .string s] 51) := by
  go_enter Try.func6, Try.ntmps6
  go_wp2
  go_ret
  exact ⟨rfl, rfl⟩
set_option maxRecDepth 100000 in
set_option maxHeartbeats 1000000 in
theorem qkey_walk {w : World} {a b : Nat} {nm : List Nat} (h : Qa w a b nm) (hl : nm.length ≤ 1000) (n : Nat) (hn : n < 18446744073709551616) :
    Calls Try.prog 17 #[.pointer (some ⟨a, 0, none⟩), .int .u64 (n : Nat)] w fun e w' => e = .returned (.string (bs (nm ++ keyL n))) ∧ Kept w w' := by
  have c1 := h.c1
  have hk := N.key_walk n hn
  have hap := N.bs_append nm (keyL n)
  have hs1 := N.bs_size nm
  have hs2 := N.bs_size (keyL n)
  have hs3 : (keyL n).length ≤ 9 := by rw [N.keyL_length]; have := N.lowL_eight n hn; omega
  generalize bs (nm ++ keyL n) = r at *
  generalize bs nm = x at *
  generalize bs (keyL n) = y at *
  have hx : x.size ≤ 1000 := by omega
  have hy : y.size ≤ 9 := by omega
  have y1 : ¬ 9223372036854775807 < x.size + y.size := by omega
  clear hs1 hs2 hs3 h hl
  go_enter Try.func17, Try.ntmps17
  go_wp2_with fail
  have kd : Kept w w.drew := (Kept.refl w).drew
  go_region_held3 (fun W => W.cell? ⟨a, 1, none⟩ = some (.string x)) (first | go_keep | exact kept_cell K1.out c1) (first
    | (go_at_call 27; (with_reducible refine (hk _).mono ?_); rintro e w1 ⟨rfl, k1⟩; have K1 : Hid (Kept w w1) := kd.trans k1; clear k1))
  all_goals go_wp2
  all_goals go_ret
  all_goals exact ⟨rfl, K1.out⟩
end Go.Proofs.Ytabbfoaojmhajaa.Q
