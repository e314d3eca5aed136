/- The statement's keys and texts as an interface: what Get, Put and Delete do to them as a function. Conditions: those that each row names. -/
import Derived.Test.YtpefmoddglpbfaaKDb
namespace Go.Proofs.Ytpefmoddglpbfaa.Q
open Go.ChangeShapes Go.WideShapes Go.ChangeAt Go.RowKit
open N (Kept)
variable {E : Nat → Prop}

theorem Kv.congr {w : World} {B b m : Nat} {f g : ByteArray → Option ByteArray} (h : Kv E w B b m f) (e : ∀ k, g k = f k) : Kv E w B b m g := by
  obtain ⟨M, p, q, c, d, h1, h2⟩ := h.out
  exact ⟨M, p, q, c, d, h1, fun k => (e k).trans (h2 k)⟩
theorem Kv.more {w : World} {B b m : Nat} {f : ByteArray → Option ByteArray} (h : Kv E w B b m f) : ∃ m', m' ≤ m + 1 ∧ Kv E w B b m' f := ⟨m, Nat.le_succ _, h⟩
theorem first_or (k : ByteArray) : ∀ M : List (ByteArray × ByteArray), (∀ e ∈ M, e.1 ≠ k) ∨ ∃ (i : Nat) (x : ByteArray × ByteArray), M[i]? = some x ∧ x.1 = k ∧ ∀ e ∈ M.take i, e.1 ≠ x.1
  | [] => .inl fun e he => by cases he
  | a :: r => by
    by_cases h : a.1 = k
    · exact .inr ⟨0, a, rfl, h, fun e he => by simp at he⟩
    · rcases first_or k r with h1 | ⟨i, x, h1, h2, h3⟩
      · exact .inl fun e he => by
          rcases List.mem_cons.1 he with rfl | he
          · exact h
          · exact h1 e he
      · refine .inr ⟨i + 1, x, by simpa using h1, h2, fun e he => ?_⟩
        rw [List.take_succ_cons] at he
        rcases List.mem_cons.1 he with rfl | he
        · rw [h2]; exact h
        · exact h3 e he
theorem put_walk {w : World} {B b m : Nat} {f : ByteArray → Option ByteArray} (h : Kv E w B b m f) (hm : m ≤ 100000) (hB : B ≤ w.heap.size) (k t : ByteArray) :
    Calls Try.prog 41 #[.pointer (some ⟨b, 0, none⟩), .string k, .string t] w fun e w' => e = .returned (.int .i64 0) ∧ (∃ m', m' ≤ m + 1 ∧ Kv E w' B b m' (put f k t)) ∧ Vn E B w w' := by
  obtain ⟨M, p, q, c, d, h1, h2⟩ := h.out
  have e : ∀ x, put f k t x = put (fun k => got k M) k t x := fun x => by unfold put; rw [h2]
  rcases first_or k M with h3 | ⟨i, x, h3, rfl, h5⟩
  · refine (put_new h1 hm hB k t h3).mono ?_
    rintro r w' ⟨rfl, a, v⟩
    exact ⟨rfl, ⟨_, Nat.le_refl _, a.congr e⟩, v⟩
  · refine (put_old h1 h3 h5 t).mono ?_
    rintro r w' ⟨rfl, a, v⟩
    exact ⟨rfl, ⟨_, Nat.le_succ _, a.congr e⟩, v⟩
theorem m_get (w : World) (b : Nat) : (method 178 38 (.pointer (some ⟨b, 0, none⟩)) "Get").run Try.prog w = .ok (39, .pointer (some ⟨b, 0, none⟩)) w := by kernel_rfl
theorem m_put (w : World) (b : Nat) : (method 178 38 (.pointer (some ⟨b, 0, none⟩)) "Put").run Try.prog w = .ok (41, .pointer (some ⟨b, 0, none⟩)) w := by kernel_rfl
theorem kv_new (w : World) : Kv (fun _ => False) (w.alloc (.cells #[.slice none 0 0, .slice none 0 0] 41)) w.heap.size w.heap.size 0 (fun _ => none) :=
  ⟨[], none, none, 0, 0, ⟨heap_alloc_new w _, own_nil _ _, own_nil _ _, (fun _ _ h => by cases h), Nat.le_refl _, List.nodup_nil, fun _ h => h.elim⟩, fun _ => rfl⟩
theorem Vn.pre {B : Nat} {a b c : World} (h : Kept a b) (hB : B ≤ a.heap.size) (k : Vn E B b c) : Vn E B a c := (Vn.of h hB).trans k
/-- Blocks that are none of keys' and texts' stay: those made since. -/
theorem Kv.guard {w w' : World} {B b m : Nat} {f : ByteArray → Option ByteArray} (h : Kv (fun _ => False) w B b m f) (k : Kept w w') (E' : Nat → Prop) (hE : ∀ x, E' x → w.heap.size ≤ x ∧ x < w'.heap.size) : Kv E' w' B b m f := by
  obtain ⟨M, p, q, c, d, h1, h2⟩ := h.out
  have hk := h1.kept k
  refine ⟨M, p, q, c, d, ⟨hk.at', hk.ks, hk.ts, hk.apart, hk.big, hk.nd, fun x hx => ?_⟩, h2⟩
  obtain ⟨x1, x2⟩ := hE x hx
  have lt : ∀ (r : Option Addr) (l : List ByteArray) (z : Nat), Own w B r m z l → ∀ a, r = some a → x ≠ a.block := by
    rintro r l z ho a rfl e
    obtain ⟨_, cs', h3⟩ := ho.blk
    have := (Array.getElem?_eq_some_iff.1 h3).1
    omega
  exact ⟨(by have := (Array.getElem?_eq_some_iff.1 h1.at').1; omega), lt p _ _ h1.ks, lt q _ _ h1.ts, x2⟩
theorem Kv.free {w : World} {B b m : Nat} {f : ByteArray → Option ByteArray} (h : Kv E w B b m f) : Kv (fun _ => False) w B b m f := by
  obtain ⟨M, p, q, c, d, h1, h2⟩ := h.out
  exact ⟨M, p, q, c, d, ⟨h1.at', h1.ks, h1.ts, h1.apart, h1.big, h1.nd, fun x hx => hx.elim⟩, h2⟩
theorem Vn.free {B : Nat} {w w' : World} (h : Vn E B w w') : Vn (fun _ => False) B w w' := ⟨h.low, fun k o e h1 => h.oth k o e (h1.imp id False.elim)⟩
end Go.Proofs.Ytpefmoddglpbfaa.Q
