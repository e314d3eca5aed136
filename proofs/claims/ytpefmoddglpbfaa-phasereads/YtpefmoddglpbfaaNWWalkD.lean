/- The walks of a reader's New, Err, Left, Fail, End: what each returns, and that of memory the reader's own block alone turns. Conditions: the reader is nil, or a block that holds its bytes and its error. -/
import Derived.Test.YtpefmoddglpbfaaNWWalkC
namespace Go.Proofs.Ytpefmoddglpbfaa.N
open Go.ChangeShapes Go.WideShapes Go.ChangeAt Go.RowKit

/-- A reader: its bytes, its error. -/
structure Rd (w : World) (b : Nat) (s : ByteArray) (e : Int) : Prop where
  out : w.heap[b]? = some (.cells #[.string s, .int .i64 e] 57)

/-- Below a block all is as it was. -/
structure On (b : Nat) (w w' : World) : Prop where
  out : Below b w w'

theorem On.refl (b : Nat) (w : World) : On b w w := ⟨Below.refl _ _⟩
theorem On.trans {B : Nat} {a b c : World} (h : On B a b) (k : On B b c) : On B a c := ⟨h.out.trans k.out⟩
theorem On.mono {B B' : Nat} {w w' : World} (h : On B w w') (hB : B' ≤ B) : On B' w w' := ⟨h.out.mono hB⟩
theorem On.size {B : Nat} {w w' : World} (h : On B w w') : w.heap.size ≤ w'.heap.size := h.out.size
theorem Kept.on {w w' : World} (h : Kept w w') {b : Nat} (hb : b ≤ w.heap.size) : On b w w' := ⟨h.out.mono hb⟩
theorem Kept.rd {w w' : World} (h : Kept w w') {b : Nat} {s : ByteArray} {e : Int} (k : Rd w b s e) : Rd w' b s e := ⟨h.block k.out⟩
theorem Rd.lt {w : World} {b : Nat} {s : ByteArray} {e : Int} (k : Rd w b s e) : b < w.heap.size := (Array.getElem?_eq_some_iff.1 k.out).1

theorem Rd.c0 {w : World} {b : Nat} {s : ByteArray} {e : Int} (k : Rd w b s e) : w.cell? ⟨b, 0, none⟩ = some (.string s) := by rw [cell_of_row w b 0 _ _ _ k.out]; rfl
theorem Rd.c1 {w : World} {b : Nat} {s : ByteArray} {e : Int} (k : Rd w b s e) : w.cell? ⟨b, 1, none⟩ = some (.int .i64 e) := by rw [cell_of_row w b 1 _ _ _ k.out]; rfl
theorem Rd.f0 {w : World} {b : Nat} {s : ByteArray} {e : Int} (k : Rd w b s e) (j : Nat) : w.frozen? ⟨b, j, none⟩ = false := frozen_of_row w b j _ _ k.out

theorem Rd.set0 {w : World} {b : Nat} {s : ByteArray} {e : Int} (k : Rd w b s e) (t : ByteArray) : Rd (w.setCell ⟨b, 0, none⟩ (.string t)) b t e :=
  ⟨by rw [heap_setCell_same w b 0 _ _ _ k.out]; rfl⟩
theorem Rd.set1 {w : World} {b : Nat} {s : ByteArray} {e : Int} (k : Rd w b s e) (x : Int) : Rd (w.setCell ⟨b, 1, none⟩ (.int .i64 x)) b s x :=
  ⟨by rw [heap_setCell_same w b 1 _ _ _ k.out]; rfl⟩

theorem new_walk (s : ByteArray) (w : World) :
    Calls Try.prog 16 #[.string s] w fun e w' => e = .returned (.pointer (some ⟨w.heap.size, 0, none⟩)) ∧ Rd w' w.heap.size s 0 ∧ Kept w w' := by
  go_enter Try.func16, Try.ntmps16
  go_wp2
  go_ret
  exact ⟨rfl, ⟨by show (w.heap.push _)[w.heap.size]? = _; simp⟩, (Kept.refl w).alloc _⟩

theorem err_nil (w : World) : Calls Try.prog 20 #[.pointer none] w fun e w' => e = .returned (.int .i64 2) ∧ w' = w := by
  go_enter Try.func20, Try.ntmps20
  go_wp2
  go_ret
  exact ⟨rfl, rfl⟩

theorem err_walk {b : Nat} {s : ByteArray} {x : Int} {w : World} (k : Rd w b s x) : Calls Try.prog 20 #[.pointer (some ⟨b, 0, none⟩)] w fun e w' => e = .returned (.int .i64 x) ∧ w' = w := by
  have c1 := k.c1
  go_enter Try.func20, Try.ntmps20
  go_wp2
  go_ret
  exact ⟨rfl, rfl⟩

theorem left_nil (w : World) : Calls Try.prog 23 #[.pointer none] w fun e w' => e = .returned (.int .i64 0) ∧ w' = w := by
  go_enter Try.func23, Try.ntmps23
  go_wp2
  go_ret
  exact ⟨rfl, rfl⟩

theorem left_walk {b : Nat} {s : ByteArray} {x : Int} {w : World} (k : Rd w b s x) : Calls Try.prog 23 #[.pointer (some ⟨b, 0, none⟩)] w fun e w' => e = .returned (.int .i64 (s.size : Nat)) ∧ w' = w := by
  have c0 := k.c0
  go_enter Try.func23, Try.ntmps23
  go_wp2
  go_ret
  exact ⟨rfl, rfl⟩

theorem end_nil (w : World) : Calls Try.prog 18 #[.pointer none] w fun e w' => e = .returned (.int .i64 2) ∧ w' = w := by
  go_enter Try.func18, Try.ntmps18
  go_wp2_with (first
    | (go_at_call 20; refine (err_nil _).mono ?_; rintro e w' ⟨rfl, rfl⟩)
    | (go_at_call 23; refine (left_nil _).mono ?_; rintro e w' ⟨rfl, rfl⟩))
  go_ret
  exact ⟨rfl, rfl⟩

theorem end_walk {b : Nat} {x : Int} {w : World} (k : Rd w b ⟨#[]⟩ x) : Calls Try.prog 18 #[.pointer (some ⟨b, 0, none⟩)] w fun e w' => e = .returned (.int .i64 x) ∧ w' = w := by
  have h := left_walk k
  rw [show (⟨#[]⟩ : ByteArray).size = 0 from rfl] at h
  go_enter Try.func18, Try.ntmps18
  go_wp2_with (first
    | (go_at_call 20; refine (err_walk k).mono ?_; rintro e w' ⟨rfl, rfl⟩)
    | (go_at_call 23; refine h.mono ?_; rintro e w' ⟨rfl, rfl⟩))
  go_ret
  exact ⟨rfl, rfl⟩

theorem fail_nil (x : Int) (hx : (x == 0) = false) (w : World) : Calls Try.prog 22 #[.pointer none, .int .i64 x] w fun e w' => e = .returned (.tuple #[]) ∧ w' = w := by
  go_enter Try.func22, Try.ntmps22
  go_wp2_with (go_at_call 20; refine (err_nil _).mono ?_; rintro e w' ⟨rfl, rfl⟩)
  first | go_end0 | refine bodyPost_ret (results_none rfl _ _ _) rfl ?_
  exact ⟨rfl, rfl⟩

theorem fail_first (x : Int) (hx : (x == 0) = false) {b : Nat} {s : ByteArray} {w : World} (k : Rd w b s 0) :
    Calls Try.prog 22 #[.pointer (some ⟨b, 0, none⟩), .int .i64 x] w fun e w' => e = .returned (.tuple #[]) ∧ Rd w' b ⟨#[]⟩ x ∧ On b w w' := by
  have c0 := k.c0
  have f0 := k.f0 0
  have k1 := k.set0 ⟨#[]⟩
  have c1 := k1.c1
  have f1 := k1.f0 1
  have k2 := k1.set1 x
  have o1 : On b w ((w.setCell ⟨b, 0, none⟩ (.string ⟨#[]⟩)).setCell ⟨b, 1, none⟩ (.int .i64 x)) := ⟨((Below.refl b w).setCell (Nat.le_refl _) _).setCell (Nat.le_refl _) _⟩
  have e13 := err_walk k
  go_enter Try.func22, Try.ntmps22
  go_wp2_with (go_at_call 20; refine e13.mono ?_; rintro e w' ⟨rfl, rfl⟩)
  first | go_end0 | refine bodyPost_ret (results_none rfl _ _ _) rfl ?_
  exact ⟨rfl, k2, o1⟩

theorem fail_later (x y : Int) (hx : (x == 0) = false) (hy : (y == 0) = false) {b : Nat} {s : ByteArray} {w : World} (k : Rd w b s y) :
    Calls Try.prog 22 #[.pointer (some ⟨b, 0, none⟩), .int .i64 x] w fun e w' => e = .returned (.tuple #[]) ∧ w' = w := by
  have e13 := err_walk k
  go_enter Try.func22, Try.ntmps22
  go_wp2_with (go_at_call 20; refine e13.mono ?_; rintro e w' ⟨rfl, rfl⟩)
  first | go_end0 | refine bodyPost_ret (results_none rfl _ _ _) rfl ?_
  exact ⟨rfl, rfl⟩
end Go.Proofs.Ytpefmoddglpbfaa.N
