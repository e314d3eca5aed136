/- The walk of simple. Conditions: names are short. -/
import Derived.Test.YtgdafolidifdoaaDoorIP
namespace Go.Proofs.YtgdafolidifdoaaDoor.Tp
open Go.ChangeShapes Go.WideShapes Go.ChangeAt Go.RowKit

theorem not_empty {s : ByteArray} (h : s ≠ ⟨#[]⟩) : s.toList.isEmpty = false := by
  cases hs : s.toList.isEmpty with
  | false => rfl
  | true =>
    exfalso
    apply h
    rw [List.isEmpty_iff, toList_data] at hs
    exact ByteArray.ext (Array.toList_inj.1 hs)

set_option maxRecDepth 100000 in
set_option maxHeartbeats 2000000 in
theorem sm1 {w : World} {pos : Int} {to fd fr : ByteArray} {e : Ex} {pa : Option Addr} {na ca : Nat} {pb : Option Addr} {nb cb : Nat} {pe : Option Addr} {ne ce : Nat} (h1 : to.size ≤ 6) (_h2 : fd.size ≤ 6) (_h3 : fr.size ≤ 6) (h4 : Sx e) (h5 : Ag w pa na ca e.args) :
    Calls Tryd.prog 40 #[.agg #[.int .i64 1, .int .i64 pos, .string to, .string fd, .string fr, .int .i64 e.k, .string e.a, .string e.b, .int .i64 e.op, .int .i64 e.n, .slice pa na ca, .slice pb nb cb, .slice pe ne ce]] w fun x w' => x = .returned (.string (to ++ ⟨#[32, 61, 32]⟩ ++ ex e)) ∧ Kept w w' := by
  have HK : Hid (Kept w (w.alloc (.cells #[.int .i64 1, .int .i64 pos, .string to, .string fd, .string fr, .int .i64 e.k, .string e.a, .string e.b, .int .i64 e.op, .int .i64 e.n, .slice pa na ca, .slice pb nb cb, .slice pe ne ce] 67))) := (Kept.refl w).alloc _
  have hx0 := h4.ex
  have HE : Hid (∀ W, Kept (w.alloc (.cells #[.int .i64 1, .int .i64 pos, .string to, .string fd, .string fr, .int .i64 e.k, .string e.a, .string e.b, .int .i64 e.op, .int .i64 e.n, .slice pa na ca, .slice pb nb cb, .slice pe ne ce] 67)) W → Calls Tryd.prog 10 #[.agg #[.int .i64 e.k, .string e.a, .string e.b, .int .i64 e.op, .int .i64 e.n, .slice pa na ca]] W fun x w' => x = .returned (.string (ex e)) ∧ Kept (w.alloc (.cells #[.int .i64 1, .int .i64 pos, .string to, .string fd, .string fr, .int .i64 e.k, .string e.a, .string e.b, .int .i64 e.op, .int .i64 e.n, .slice pa na ca, .slice pb nb cb, .slice pe ne ce] 67)) w') := fun W hW => (expr_walk e h4 (h5.kept (HK.out.trans hW))).mono fun _ _ ⟨a1, a2⟩ => ⟨a1, hW.trans a2⟩
  generalize ex e = x at *
  clear h4 h5
  have b1 : ¬ 9223372036854775807 < (to : ByteArray).size + (⟨#[32, 61, 32]⟩ : ByteArray).size := by simp only [lsz, List.length_cons, List.length_nil]; omega
  have c1 : ¬ 9223372036854775807 < to.size + 3 := by omega
  have b2 : ¬ 9223372036854775807 < (to ++ ⟨#[32, 61, 32]⟩ : ByteArray).size + (x : ByteArray).size := by simp only [ByteArray.size_append, lsz, List.length_cons, List.length_nil]; omega
  have c2 : ¬ 9223372036854775807 < to.size + 3 + x.size := by omega
  have HSA : Hid (∀ W, Kept (w.alloc (.cells #[.int .i64 1, .int .i64 pos, .string to, .string fd, .string fr, .int .i64 e.k, .string e.a, .string e.b, .int .i64 e.op, .int .i64 e.n, .slice pa na ca, .slice pb nb cb, .slice pe ne ce] 67)) W → W.cell? ⟨w.heap.size, 2, none⟩ = some (.string to) ∧ W.cell? ⟨w.heap.size, 5, none⟩ = some (.int .i64 e.k) ∧ W.cell? ⟨w.heap.size, 6, none⟩ = some (.string e.a) ∧ W.cell? ⟨w.heap.size, 7, none⟩ = some (.string e.b) ∧ W.cell? ⟨w.heap.size, 8, none⟩ = some (.int .i64 e.op) ∧ W.cell? ⟨w.heap.size, 9, none⟩ = some (.int .i64 e.n) ∧ W.cell? ⟨w.heap.size, 10, none⟩ = some (.slice pa na ca)) := fun W hW => by
    have hb := hW.block (alloc_at w _)
    exact ⟨by rw [cell_of_row _ w.heap.size 2 _ _ _ hb]; rfl, by rw [cell_of_row _ w.heap.size 5 _ _ _ hb]; rfl, by rw [cell_of_row _ w.heap.size 6 _ _ _ hb]; rfl, by rw [cell_of_row _ w.heap.size 7 _ _ _ hb]; rfl, by rw [cell_of_row _ w.heap.size 8 _ _ _ hb]; rfl, by rw [cell_of_row _ w.heap.size 9 _ _ _ hb]; rfl, by rw [cell_of_row _ w.heap.size 10 _ _ _ hb]; rfl⟩
  go_enter Tryd.func40, Tryd.ntmps40
  go_wp2
  go_region_held3 (fun W => W.cell? ⟨w.heap.size, 2, none⟩ = some (.string to) ∧ W.cell? ⟨w.heap.size, 5, none⟩ = some (.int .i64 e.k) ∧ W.cell? ⟨w.heap.size, 6, none⟩ = some (.string e.a) ∧ W.cell? ⟨w.heap.size, 7, none⟩ = some (.string e.b) ∧ W.cell? ⟨w.heap.size, 8, none⟩ = some (.int .i64 e.op) ∧ W.cell? ⟨w.heap.size, 9, none⟩ = some (.int .i64 e.n) ∧ W.cell? ⟨w.heap.size, 10, none⟩ = some (.slice pa na ca)) (exact HSA.out _ (by (repeat (first | assumption | exact Kept.refl _ | apply Kept.drew | apply Kept.alloc)))) (first
    | (go_at_call 10; (with_reducible refine (HE.out _ ?_).mono ?_); (repeat (first | assumption | exact Kept.refl _ | apply Kept.drew | apply Kept.alloc)); rintro x1 w' ⟨rfl, hk⟩))
  all_goals go_wp2
  all_goals go_ret
  all_goals exact ⟨rfl, HK.out.trans (by (repeat (first | assumption | exact Kept.refl _ | apply Kept.drew | apply Kept.alloc)))⟩

set_option maxRecDepth 100000 in
set_option maxHeartbeats 2000000 in
theorem sm2 {w : World} {pos : Int} {to fd fr : ByteArray} {e : Ex} {pa : Option Addr} {na ca : Nat} {pb : Option Addr} {nb cb : Nat} {pe : Option Addr} {ne ce : Nat} (h1 : to.size ≤ 6) (_h2 : fd.size ≤ 6) (h3 : fr.size ≤ 6) (_h4 : Sx e) (_h5 : Ag w pa na ca e.args) :
    Calls Tryd.prog 40 #[.agg #[.int .i64 2, .int .i64 pos, .string to, .string fd, .string fr, .int .i64 e.k, .string e.a, .string e.b, .int .i64 e.op, .int .i64 e.n, .slice pa na ca, .slice pb nb cb, .slice pe ne ce]] w fun x w' => x = .returned (.string (⟨#[64]⟩ ++ to ++ ⟨#[32, 61, 32]⟩ ++ fr)) ∧ Kept w w' := by
  have HK : Hid (Kept w (w.alloc (.cells #[.int .i64 2, .int .i64 pos, .string to, .string fd, .string fr, .int .i64 e.k, .string e.a, .string e.b, .int .i64 e.op, .int .i64 e.n, .slice pa na ca, .slice pb nb cb, .slice pe ne ce] 67))) := (Kept.refl w).alloc _
  have b1 : ¬ 9223372036854775807 < (⟨#[64]⟩ : ByteArray).size + (to : ByteArray).size := by simp only [lsz, List.length_cons, List.length_nil]; omega
  have c1 : ¬ 9223372036854775807 < 1 + to.size := by omega
  have b2 : ¬ 9223372036854775807 < (⟨#[64]⟩ ++ to : ByteArray).size + (⟨#[32, 61, 32]⟩ : ByteArray).size := by simp only [ByteArray.size_append, lsz, List.length_cons, List.length_nil]; omega
  have c2 : ¬ 9223372036854775807 < 1 + to.size + 3 := by omega
  have b3 : ¬ 9223372036854775807 < (⟨#[64]⟩ ++ to ++ ⟨#[32, 61, 32]⟩ : ByteArray).size + (fr : ByteArray).size := by simp only [ByteArray.size_append, lsz, List.length_cons, List.length_nil]; omega
  have c3 : ¬ 9223372036854775807 < 1 + to.size + 3 + fr.size := by omega
  go_enter Tryd.func40, Tryd.ntmps40
  go_wp2
  go_ret
  exact ⟨rfl, HK.out⟩

set_option maxRecDepth 100000 in
set_option maxHeartbeats 2000000 in
theorem sm3 {w : World} {pos : Int} {to fd fr : ByteArray} {e : Ex} {pa : Option Addr} {na ca : Nat} {pb : Option Addr} {nb cb : Nat} {pe : Option Addr} {ne ce : Nat} (h1 : to.size ≤ 6) (h2 : fd.size ≤ 6) (h3 : fr.size ≤ 6) (_h4 : Sx e) (_h5 : Ag w pa na ca e.args) :
    Calls Tryd.prog 40 #[.agg #[.int .i64 3, .int .i64 pos, .string to, .string fd, .string fr, .int .i64 e.k, .string e.a, .string e.b, .int .i64 e.op, .int .i64 e.n, .slice pa na ca, .slice pb nb cb, .slice pe ne ce]] w fun x w' => x = .returned (.string (to ++ ⟨#[46]⟩ ++ fd ++ ⟨#[32, 61, 32]⟩ ++ fr)) ∧ Kept w w' := by
  have HK : Hid (Kept w (w.alloc (.cells #[.int .i64 3, .int .i64 pos, .string to, .string fd, .string fr, .int .i64 e.k, .string e.a, .string e.b, .int .i64 e.op, .int .i64 e.n, .slice pa na ca, .slice pb nb cb, .slice pe ne ce] 67))) := (Kept.refl w).alloc _
  have b1 : ¬ 9223372036854775807 < (to : ByteArray).size + (⟨#[46]⟩ : ByteArray).size := by simp only [lsz, List.length_cons, List.length_nil]; omega
  have c1 : ¬ 9223372036854775807 < to.size + 1 := by omega
  have b2 : ¬ 9223372036854775807 < (to ++ ⟨#[46]⟩ : ByteArray).size + (fd : ByteArray).size := by simp only [ByteArray.size_append, lsz, List.length_cons, List.length_nil]; omega
  have c2 : ¬ 9223372036854775807 < to.size + 1 + fd.size := by omega
  have b3 : ¬ 9223372036854775807 < (to ++ ⟨#[46]⟩ ++ fd : ByteArray).size + (⟨#[32, 61, 32]⟩ : ByteArray).size := by simp only [ByteArray.size_append, lsz, List.length_cons, List.length_nil]; omega
  have c3 : ¬ 9223372036854775807 < to.size + 1 + fd.size + 3 := by omega
  have b4 : ¬ 9223372036854775807 < (to ++ ⟨#[46]⟩ ++ fd ++ ⟨#[32, 61, 32]⟩ : ByteArray).size + (fr : ByteArray).size := by simp only [ByteArray.size_append, lsz, List.length_cons, List.length_nil]; omega
  have c4 : ¬ 9223372036854775807 < to.size + 1 + fd.size + 3 + fr.size := by omega
  go_enter Tryd.func40, Tryd.ntmps40
  go_wp2
  go_ret
  exact ⟨rfl, HK.out⟩

set_option maxRecDepth 100000 in
set_option maxHeartbeats 2000000 in
theorem sm6 {w : World} {pos : Int} {to fd fr : ByteArray} {e : Ex} {pa : Option Addr} {na ca : Nat} {pb : Option Addr} {nb cb : Nat} {pe : Option Addr} {ne ce : Nat} (_h1 : to.size ≤ 6) (_h2 : fd.size ≤ 6) (h3 : fr.size ≤ 6) (_h4 : Sx e) (_h5 : Ag w pa na ca e.args) :
    Calls Tryd.prog 40 #[.agg #[.int .i64 6, .int .i64 pos, .string to, .string fd, .string fr, .int .i64 e.k, .string e.a, .string e.b, .int .i64 e.op, .int .i64 e.n, .slice pa na ca, .slice pb nb cb, .slice pe ne ce]] w fun x w' => x = .returned (.string (⟨#[108, 111, 99, 107, 32]⟩ ++ fr)) ∧ Kept w w' := by
  have HK : Hid (Kept w (w.alloc (.cells #[.int .i64 6, .int .i64 pos, .string to, .string fd, .string fr, .int .i64 e.k, .string e.a, .string e.b, .int .i64 e.op, .int .i64 e.n, .slice pa na ca, .slice pb nb cb, .slice pe ne ce] 67))) := (Kept.refl w).alloc _
  have b1 : ¬ 9223372036854775807 < (⟨#[108, 111, 99, 107, 32]⟩ : ByteArray).size + (fr : ByteArray).size := by simp only [lsz, List.length_cons, List.length_nil]; omega
  have c1 : ¬ 9223372036854775807 < 5 + fr.size := by omega
  go_enter Tryd.func40, Tryd.ntmps40
  go_wp2
  go_ret
  exact ⟨rfl, HK.out⟩

set_option maxRecDepth 100000 in
set_option maxHeartbeats 2000000 in
theorem sm7 {w : World} {pos : Int} {to fd fr : ByteArray} {e : Ex} {pa : Option Addr} {na ca : Nat} {pb : Option Addr} {nb cb : Nat} {pe : Option Addr} {ne ce : Nat} (_h1 : to.size ≤ 6) (_h2 : fd.size ≤ 6) (h3 : fr.size ≤ 6) (_h4 : Sx e) (_h5 : Ag w pa na ca e.args) :
    Calls Tryd.prog 40 #[.agg #[.int .i64 7, .int .i64 pos, .string to, .string fd, .string fr, .int .i64 e.k, .string e.a, .string e.b, .int .i64 e.op, .int .i64 e.n, .slice pa na ca, .slice pb nb cb, .slice pe ne ce]] w fun x w' => x = .returned (.string (⟨#[117, 110, 108, 111, 99, 107, 32]⟩ ++ fr)) ∧ Kept w w' := by
  have HK : Hid (Kept w (w.alloc (.cells #[.int .i64 7, .int .i64 pos, .string to, .string fd, .string fr, .int .i64 e.k, .string e.a, .string e.b, .int .i64 e.op, .int .i64 e.n, .slice pa na ca, .slice pb nb cb, .slice pe ne ce] 67))) := (Kept.refl w).alloc _
  have b1 : ¬ 9223372036854775807 < (⟨#[117, 110, 108, 111, 99, 107, 32]⟩ : ByteArray).size + (fr : ByteArray).size := by simp only [lsz, List.length_cons, List.length_nil]; omega
  have c1 : ¬ 9223372036854775807 < 7 + fr.size := by omega
  go_enter Tryd.func40, Tryd.ntmps40
  go_wp2
  go_ret
  exact ⟨rfl, HK.out⟩

set_option maxRecDepth 100000 in
set_option maxHeartbeats 2000000 in
theorem sm8 {w : World} {pos : Int} {to fd fr : ByteArray} {e : Ex} {pa : Option Addr} {na ca : Nat} {pb : Option Addr} {nb cb : Nat} {pe : Option Addr} {ne ce : Nat} (_h1 : to.size ≤ 6) (_h2 : fd.size ≤ 6) (_h3 : fr.size ≤ 6) (h4 : Sx e) (h5 : Ag w pa na ca e.args) :
    Calls Tryd.prog 40 #[.agg #[.int .i64 8, .int .i64 pos, .string to, .string fd, .string fr, .int .i64 e.k, .string e.a, .string e.b, .int .i64 e.op, .int .i64 e.n, .slice pa na ca, .slice pb nb cb, .slice pe ne ce]] w fun x w' => x = .returned (.string (⟨#[115, 112, 97, 119, 110, 32]⟩ ++ ex e)) ∧ Kept w w' := by
  have HK : Hid (Kept w (w.alloc (.cells #[.int .i64 8, .int .i64 pos, .string to, .string fd, .string fr, .int .i64 e.k, .string e.a, .string e.b, .int .i64 e.op, .int .i64 e.n, .slice pa na ca, .slice pb nb cb, .slice pe ne ce] 67))) := (Kept.refl w).alloc _
  have hx0 := h4.ex
  have HE : Hid (∀ W, Kept (w.alloc (.cells #[.int .i64 8, .int .i64 pos, .string to, .string fd, .string fr, .int .i64 e.k, .string e.a, .string e.b, .int .i64 e.op, .int .i64 e.n, .slice pa na ca, .slice pb nb cb, .slice pe ne ce] 67)) W → Calls Tryd.prog 10 #[.agg #[.int .i64 e.k, .string e.a, .string e.b, .int .i64 e.op, .int .i64 e.n, .slice pa na ca]] W fun x w' => x = .returned (.string (ex e)) ∧ Kept (w.alloc (.cells #[.int .i64 8, .int .i64 pos, .string to, .string fd, .string fr, .int .i64 e.k, .string e.a, .string e.b, .int .i64 e.op, .int .i64 e.n, .slice pa na ca, .slice pb nb cb, .slice pe ne ce] 67)) w') := fun W hW => (expr_walk e h4 (h5.kept (HK.out.trans hW))).mono fun _ _ ⟨a1, a2⟩ => ⟨a1, hW.trans a2⟩
  generalize ex e = x at *
  clear h4 h5
  have b1 : ¬ 9223372036854775807 < (⟨#[115, 112, 97, 119, 110, 32]⟩ : ByteArray).size + (x : ByteArray).size := by simp only [lsz, List.length_cons, List.length_nil]; omega
  have c1 : ¬ 9223372036854775807 < 6 + x.size := by omega
  go_enter Tryd.func40, Tryd.ntmps40
  go_wp2_with (go_at_call 10; (with_reducible refine (HE.out _ (Kept.refl _)).mono ?_); rintro x1 w1 ⟨rfl, hk1⟩)
  go_ret
  exact ⟨rfl, HK.out.trans hk1⟩

set_option maxRecDepth 100000 in
set_option maxHeartbeats 2000000 in
theorem sm9 {w : World} {pos : Int} {to fd fr : ByteArray} {e : Ex} {pa : Option Addr} {na ca : Nat} {pb : Option Addr} {nb cb : Nat} {pe : Option Addr} {ne ce : Nat} (_h1 : to.size ≤ 6) (_h2 : fd.size ≤ 6) (_h3 : fr.size ≤ 6) (h4 : Sx e) (h5 : Ag w pa na ca e.args) :
    Calls Tryd.prog 40 #[.agg #[.int .i64 9, .int .i64 pos, .string to, .string fd, .string fr, .int .i64 e.k, .string e.a, .string e.b, .int .i64 e.op, .int .i64 e.n, .slice pa na ca, .slice pb nb cb, .slice pe ne ce]] w fun x w' => x = .returned (.string (ex e)) ∧ Kept w w' := by
  have HK : Hid (Kept w (w.alloc (.cells #[.int .i64 9, .int .i64 pos, .string to, .string fd, .string fr, .int .i64 e.k, .string e.a, .string e.b, .int .i64 e.op, .int .i64 e.n, .slice pa na ca, .slice pb nb cb, .slice pe ne ce] 67))) := (Kept.refl w).alloc _
  have hx0 := h4.ex
  have HE : Hid (∀ W, Kept (w.alloc (.cells #[.int .i64 9, .int .i64 pos, .string to, .string fd, .string fr, .int .i64 e.k, .string e.a, .string e.b, .int .i64 e.op, .int .i64 e.n, .slice pa na ca, .slice pb nb cb, .slice pe ne ce] 67)) W → Calls Tryd.prog 10 #[.agg #[.int .i64 e.k, .string e.a, .string e.b, .int .i64 e.op, .int .i64 e.n, .slice pa na ca]] W fun x w' => x = .returned (.string (ex e)) ∧ Kept (w.alloc (.cells #[.int .i64 9, .int .i64 pos, .string to, .string fd, .string fr, .int .i64 e.k, .string e.a, .string e.b, .int .i64 e.op, .int .i64 e.n, .slice pa na ca, .slice pb nb cb, .slice pe ne ce] 67)) w') := fun W hW => (expr_walk e h4 (h5.kept (HK.out.trans hW))).mono fun _ _ ⟨a1, a2⟩ => ⟨a1, hW.trans a2⟩
  generalize ex e = x at *
  clear h4 h5
  go_enter Tryd.func40, Tryd.ntmps40
  go_wp2_with (go_at_call 10; (with_reducible refine (HE.out _ (Kept.refl _)).mono ?_); rintro x1 w1 ⟨rfl, hk1⟩)
  go_ret
  exact ⟨rfl, HK.out.trans hk1⟩

set_option maxRecDepth 100000 in
set_option maxHeartbeats 2000000 in
theorem sm10 {w : World} {pos : Int} {to fd fr : ByteArray} {e : Ex} {pa : Option Addr} {na ca : Nat} {pb : Option Addr} {nb cb : Nat} {pe : Option Addr} {ne ce : Nat} (_h1 : to.size ≤ 6) (_h2 : fd.size ≤ 6) (h3 : fr.size ≤ 6) (_h4 : Sx e) (_h5 : Ag w pa na ca e.args) :
    Calls Tryd.prog 40 #[.agg #[.int .i64 10, .int .i64 pos, .string to, .string fd, .string fr, .int .i64 e.k, .string e.a, .string e.b, .int .i64 e.op, .int .i64 e.n, .slice pa na ca, .slice pb nb cb, .slice pe ne ce]] w fun x w' => x = .returned (.string ((if fr = ⟨#[]⟩ then ⟨#[114, 101, 116, 117, 114, 110]⟩ else ⟨#[114, 101, 116, 117, 114, 110, 32]⟩ ++ fr))) ∧ Kept w w' := by
  have HK : Hid (Kept w (w.alloc (.cells #[.int .i64 10, .int .i64 pos, .string to, .string fd, .string fr, .int .i64 e.k, .string e.a, .string e.b, .int .i64 e.op, .int .i64 e.n, .slice pa na ca, .slice pb nb cb, .slice pe ne ce] 67))) := (Kept.refl w).alloc _
  have b1 : ¬ 9223372036854775807 < (⟨#[114, 101, 116, 117, 114, 110, 32]⟩ : ByteArray).size + (fr : ByteArray).size := by simp only [lsz, List.length_cons, List.length_nil]; omega
  have c1 : ¬ 9223372036854775807 < 7 + fr.size := by omega
  by_cases hf : fr = ⟨#[]⟩
  · subst hf
    go_enter Tryd.func40, Tryd.ntmps40
    go_wp2
    go_ret
    exact ⟨rfl, HK.out⟩
  · have hq := not_empty hf
    go_enter Tryd.func40, Tryd.ntmps40
    go_wp2
    go_ret
    exact ⟨rfl, HK.out⟩

set_option maxRecDepth 100000 in
set_option maxHeartbeats 2000000 in
theorem sm0 {w : World} {k : Int} {pos : Int} {to fd fr : ByteArray} {e : Ex} {pa : Option Addr} {na ca : Nat} {pb : Option Addr} {nb cb : Nat} {pe : Option Addr} {ne ce : Nat} (_h1 : to.size ≤ 6) (_h2 : fd.size ≤ 6) (_h3 : fr.size ≤ 6) (_h4 : Sx e) (_h5 : Ag w pa na ca e.args) (hk : ¬ (k = 1 ∨ k = 2 ∨ k = 3 ∨ k = 6 ∨ k = 7 ∨ k = 8 ∨ k = 9 ∨ k = 10)) :
    Calls Tryd.prog 40 #[.agg #[.int .i64 k, .int .i64 pos, .string to, .string fd, .string fr, .int .i64 e.k, .string e.a, .string e.b, .int .i64 e.op, .int .i64 e.n, .slice pa na ca, .slice pb nb cb, .slice pe ne ce]] w fun x w' => x = .returned (.string (⟨#[115, 107, 105, 112]⟩)) ∧ Kept w w' := by
  have HK : Hid (Kept w (w.alloc (.cells #[.int .i64 k, .int .i64 pos, .string to, .string fd, .string fr, .int .i64 e.k, .string e.a, .string e.b, .int .i64 e.op, .int .i64 e.n, .slice pa na ca, .slice pb nb cb, .slice pe ne ce] 67))) := (Kept.refl w).alloc _
  have n1 : ¬ k = 1 := by omega
  have n2 : ¬ k = 2 := by omega
  have n3 : ¬ k = 3 := by omega
  have n6 : ¬ k = 6 := by omega
  have n7 : ¬ k = 7 := by omega
  have n8 : ¬ k = 8 := by omega
  have n9 : ¬ k = 9 := by omega
  have n10 : ¬ k = 10 := by omega
  clear hk
  go_enter Tryd.func40, Tryd.ntmps40
  go_wp2
  go_ret
  exact ⟨rfl, HK.out⟩

theorem simple_walk {w : World} {k pos : Int} {to fd fr : ByteArray} {e : Ex} {pa : Option Addr} {na ca : Nat} {pb : Option Addr} {nb cb : Nat} {pe : Option Addr} {ne ce : Nat} (h1 : to.size ≤ 6) (h2 : fd.size ≤ 6) (h3 : fr.size ≤ 6) (h4 : Sx e) (h5 : Ag w pa na ca e.args) :
    Calls Tryd.prog 40 #[.agg #[.int .i64 k, .int .i64 pos, .string to, .string fd, .string fr, .int .i64 e.k, .string e.a, .string e.b, .int .i64 e.op, .int .i64 e.n, .slice pa na ca, .slice pb nb cb, .slice pe ne ce]] w fun x w' => x = .returned (.string (sml k to fd fr e)) ∧ Kept w w' := by
  by_cases hk : k = 1 ∨ k = 2 ∨ k = 3 ∨ k = 6 ∨ k = 7 ∨ k = 8 ∨ k = 9 ∨ k = 10
  · rcases hk with rfl | rfl | rfl | rfl | rfl | rfl | rfl | rfl
    · exact sm1 h1 h2 h3 h4 h5
    · exact sm2 h1 h2 h3 h4 h5
    · exact sm3 h1 h2 h3 h4 h5
    · exact sm6 h1 h2 h3 h4 h5
    · exact sm7 h1 h2 h3 h4 h5
    · exact sm8 h1 h2 h3 h4 h5
    · exact sm9 h1 h2 h3 h4 h5
    · exact sm10 h1 h2 h3 h4 h5
  · have e0 : sml k to fd fr e = ⟨#[115, 107, 105, 112]⟩ := by
      unfold sml
      iterate 8 rw [if_neg (by omega)]
    rw [e0]
    exact sm0 h1 h2 h3 h4 h5 hk
end Go.Proofs.YtgdafolidifdoaaDoor.Tp
