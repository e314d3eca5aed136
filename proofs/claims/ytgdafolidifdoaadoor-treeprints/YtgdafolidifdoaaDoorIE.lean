/- Texts joined; the walks of call and of Expr. Conditions: names are short, numbers of 64 bits. -/
import Derived.Test.YtgdafolidifdoaaDoorIL
namespace Go.Proofs.YtgdafolidifdoaaDoor.Tp
open Go.ChangeShapes Go.WideShapes Go.ChangeAt Go.RowKit

theorem joined_walk {w : World} {p : Option Addr} {n c : Nat} {l : List ByteArray} (h : Ag w p n c l) (hn : n ≤ 1000000) (hs : (lst l).size ≤ 1000000000) :
    Calls Tryd.prog 36 #[.slice p n c, .string ⟨#[44, 32]⟩] w fun e w' => e = .returned (.string (lst l)) ∧ Kept w w' := by
  rcases Nat.eq_zero_or_pos n with e | e
  · subst e
    have : l = [] := List.length_eq_zero_iff.1 h.len
    subst this
    refine (Tryd.strings_Join_none p c ⟨#[44, 32]⟩ w).mono ?_
    rintro e w' ⟨rfl, rfl⟩
    exact ⟨rfl, Kept.refl _⟩
  · obtain ⟨b, o, rfl, hc⟩ : ∃ b o, p = some ⟨b, o, none⟩ ∧ ∀ j x, l[j]? = some x → w.cell? ⟨b, o + j, none⟩ = some (.string x) := by
      rcases h.out with h0 | h0
      · omega
      · exact h0
    have hl := h.len
    subst hl
    have hb : b < w.heap.size := by
      have h0 := hc 0 l[0] (List.getElem?_eq_getElem e)
      exact World.block_lt_of_cell? w _ h0
    have hj : (Lib.join (l.map (·.data.toList)) (⟨#[44, 32]⟩ : ByteArray).data.toList).length = (lst l).size := by
      show (Lib.join (l.map (·.data.toList)) [44, 32]).length = _
      rw [← lst_join]; rfl
    refine (Tryd.strings_Join b o c l ⟨#[44, 32]⟩ w (fun j x hx => hc j x hx) hb (by omega) h.le (by rw [hj]; omega)).mono ?_
    rintro e w' ⟨rfl, hk⟩
    exact ⟨congrArg Ending.returned (congrArg Value.string (join_lst l)), ⟨hk⟩⟩

/-- An expression's cells. -/
def ec (e : Ex) (p : Option Addr) (n c : Nat) : Array Value := #[.int .i64 e.k, .string e.a, .string e.b, .int .i64 e.op, .int .i64 e.n, .slice p n c]

set_option maxRecDepth 100000 in
set_option maxHeartbeats 1000000 in
theorem call_walk {w : World} {p : Option Addr} {n c : Nat} (e : Ex) (he : Sx e) (h : Ag w p n c e.args) :
    Calls Tryd.prog 25 #[.agg #[.int .i64 e.k, .string e.a, .string e.b, .int .i64 e.op, .int .i64 e.n, .slice p n c]] w fun x w' => x = .returned (.string (cal e)) ∧ Kept w w' := by
  have hl := he.lst
  have ha := he.a
  have hn : n ≤ 3 := by rw [← h.len]; exact he.args.1
  have HC : Hid (cal e = e.a ++ ⟨#[40]⟩ ++ lst e.args ++ ⟨#[41]⟩) := rfl
  obtain ⟨k, a, b, op, nn, args⟩ := e
  dsimp only at *
  have hc9 : c ≤ 9223372036854775807 := by have := h.cap; unfold maxLen at this; omega
  have hle := h.le
  have kA : Kept w (w.alloc (.cells #[.int .i64 k, .string a, .string b, .int .i64 op, .int .i64 nn, .slice p n c] 35)) := (Kept.refl w).alloc _
  have HK : Hid (Kept w (w.alloc (.cells #[.int .i64 k, .string a, .string b, .int .i64 op, .int .i64 nn, .slice p n c] 35))) := kA
  have HJ : Hid (∀ W, Kept (w.alloc (.cells #[.int .i64 k, .string a, .string b, .int .i64 op, .int .i64 nn, .slice p n c] 35)) W → Calls Tryd.prog 36 #[.slice p n c, .string ⟨#[44, 32]⟩] W fun e w' => e = .returned (.string (lst args)) ∧ Kept (w.alloc (.cells #[.int .i64 k, .string a, .string b, .int .i64 op, .int .i64 nn, .slice p n c] 35)) w') := fun W hW =>
    (joined_walk (h.kept (kA.trans hW)) (by omega) (by omega)).mono fun e w' ⟨h1, h2⟩ => ⟨h1, hW.trans h2⟩
  have HSA : Hid (∀ W, Kept (w.alloc (.cells #[.int .i64 k, .string a, .string b, .int .i64 op, .int .i64 nn, .slice p n c] 35)) W → W.cell? ⟨w.heap.size, 1, none⟩ = some (.string a) ∧ W.cell? ⟨w.heap.size, 5, none⟩ = some (.slice p n c)) := fun W hW => by
    have hb := hW.block (alloc_at w _)
    exact ⟨by rw [cell_of_row _ w.heap.size 1 _ _ _ hb]; rfl, by rw [cell_of_row _ w.heap.size 5 _ _ _ hb]; rfl⟩
  have b1 : ¬ 9223372036854775807 < (a : ByteArray).size + (⟨#[40]⟩ : ByteArray).size := by simp only [lsz, List.length_cons, List.length_nil]; omega
  have c1 : ¬ 9223372036854775807 < a.size + 1 := by omega
  have b2 : ¬ 9223372036854775807 < (a ++ ⟨#[40]⟩ : ByteArray).size + (lst args : ByteArray).size := by simp only [ByteArray.size_append, lsz, List.length_cons, List.length_nil]; omega
  have c2 : ¬ 9223372036854775807 < a.size + 1 + (lst args).size := by omega
  have b3 : ¬ 9223372036854775807 < (a ++ ⟨#[40]⟩ ++ lst args : ByteArray).size + (⟨#[41]⟩ : ByteArray).size := by simp only [ByteArray.size_append, lsz, List.length_cons, List.length_nil]; omega
  have c3 : ¬ 9223372036854775807 < a.size + 1 + (lst args).size + 1 := by omega
  clear h he kA
  generalize lst args = ls at *
  go_enter Tryd.func25, Tryd.ntmps25
  go_wp2
  go_region_held3 (fun W => W.cell? ⟨w.heap.size, 1, none⟩ = some (.string a) ∧ W.cell? ⟨w.heap.size, 5, none⟩ = some (.slice p n c)) (exact HSA.out _ (by (repeat (first | assumption | exact Kept.refl _ | apply Kept.drew | apply Kept.alloc)))) (first
    | (go_at_call 36; (with_reducible refine (HJ.out _ ?_).mono ?_); (repeat (first | assumption | exact Kept.refl _ | apply Kept.drew | apply Kept.alloc)); rintro e w' ⟨rfl, hk⟩))
  all_goals
    go_wp2
    go_ret
    exact ⟨by rw [HC.out]; rfl, HK.out.trans (by assumption)⟩

set_option maxRecDepth 100000 in
set_option maxHeartbeats 1000000 in
theorem ek1 {w : World} {p : Option Addr} {n c : Nat} {a b : ByteArray} {op nn : Int} {args : List ByteArray} (he : Sx ⟨1, a, b, op, nn, args⟩) (_h : Ag w p n c args) :
    Calls Tryd.prog 10 #[.agg #[.int .i64 1, .string a, .string b, .int .i64 op, .int .i64 nn, .slice p n c]] w fun x w' => x = .returned (.string (dig nn)) ∧ Kept w w' := by
    have HK : Hid (Kept w (w.alloc (.cells #[.int .i64 1, .string a, .string b, .int .i64 op, .int .i64 nn, .slice p n c] 35))) := (Kept.refl w).alloc _
    have ha : a.size ≤ 6 := he.a
    have hb : b.size ≤ 6 := he.b
    have hd := dig_size (show I64 nn from he.n)
    have hnn : I64 nn := he.n
    have HD : Hid (∀ W, Calls Tryd.prog 16 #[.int .i64 nn] W fun e w' => e = .returned (.string (dig nn)) ∧ Kept W w') := fun W => digits_walk nn hnn W
    clear he
    go_enter Tryd.func10, Tryd.ntmps10
    go_wp2_with (go_at_call 16; (with_reducible refine (HD.out _).mono ?_); rintro e w1 ⟨rfl, hk1⟩)
    go_ret
    exact ⟨rfl, HK.out.trans hk1⟩

set_option maxRecDepth 100000 in
set_option maxHeartbeats 1000000 in
theorem ek2 {w : World} {p : Option Addr} {n c : Nat} {a b : ByteArray} {op nn : Int} {args : List ByteArray} (he : Sx ⟨2, a, b, op, nn, args⟩) (_h : Ag w p n c args) :
    Calls Tryd.prog 10 #[.agg #[.int .i64 2, .string a, .string b, .int .i64 op, .int .i64 nn, .slice p n c]] w fun x w' => x = .returned (.string (⟨#[110, 117, 108, 108]⟩)) ∧ Kept w w' := by
    have HK : Hid (Kept w (w.alloc (.cells #[.int .i64 2, .string a, .string b, .int .i64 op, .int .i64 nn, .slice p n c] 35))) := (Kept.refl w).alloc _
    have ha : a.size ≤ 6 := he.a
    have hb : b.size ≤ 6 := he.b
    clear he
    go_enter Tryd.func10, Tryd.ntmps10
    go_wp2
    go_ret
    exact ⟨rfl, HK.out⟩

set_option maxRecDepth 100000 in
set_option maxHeartbeats 1000000 in
theorem ek3 {w : World} {p : Option Addr} {n c : Nat} {a b : ByteArray} {op nn : Int} {args : List ByteArray} (he : Sx ⟨3, a, b, op, nn, args⟩) (_h : Ag w p n c args) :
    Calls Tryd.prog 10 #[.agg #[.int .i64 3, .string a, .string b, .int .i64 op, .int .i64 nn, .slice p n c]] w fun x w' => x = .returned (.string (a)) ∧ Kept w w' := by
    have HK : Hid (Kept w (w.alloc (.cells #[.int .i64 3, .string a, .string b, .int .i64 op, .int .i64 nn, .slice p n c] 35))) := (Kept.refl w).alloc _
    have ha : a.size ≤ 6 := he.a
    have hb : b.size ≤ 6 := he.b
    clear he
    go_enter Tryd.func10, Tryd.ntmps10
    go_wp2
    go_ret
    exact ⟨rfl, HK.out⟩

set_option maxRecDepth 100000 in
set_option maxHeartbeats 1000000 in
theorem ek4 {w : World} {p : Option Addr} {n c : Nat} {a b : ByteArray} {op nn : Int} {args : List ByteArray} (he : Sx ⟨4, a, b, op, nn, args⟩) (_h : Ag w p n c args) :
    Calls Tryd.prog 10 #[.agg #[.int .i64 4, .string a, .string b, .int .i64 op, .int .i64 nn, .slice p n c]] w fun x w' => x = .returned (.string (⟨#[64]⟩ ++ a)) ∧ Kept w w' := by
    have HK : Hid (Kept w (w.alloc (.cells #[.int .i64 4, .string a, .string b, .int .i64 op, .int .i64 nn, .slice p n c] 35))) := (Kept.refl w).alloc _
    have ha : a.size ≤ 6 := he.a
    have hb : b.size ≤ 6 := he.b
    have b1 : ¬ 9223372036854775807 < (⟨#[64]⟩ : ByteArray).size + (a : ByteArray).size := by simp only [lsz, List.length_cons, List.length_nil]; omega
    have c1 : ¬ 9223372036854775807 < 1 + a.size := by omega
    clear he
    go_enter Tryd.func10, Tryd.ntmps10
    go_wp2
    go_ret
    exact ⟨rfl, HK.out⟩

set_option maxRecDepth 100000 in
set_option maxHeartbeats 1000000 in
theorem ek5 {w : World} {p : Option Addr} {n c : Nat} {a b : ByteArray} {op nn : Int} {args : List ByteArray} (he : Sx ⟨5, a, b, op, nn, args⟩) (_h : Ag w p n c args) :
    Calls Tryd.prog 10 #[.agg #[.int .i64 5, .string a, .string b, .int .i64 op, .int .i64 nn, .slice p n c]] w fun x w' => x = .returned (.string (a ++ ⟨#[46]⟩ ++ b)) ∧ Kept w w' := by
    have HK : Hid (Kept w (w.alloc (.cells #[.int .i64 5, .string a, .string b, .int .i64 op, .int .i64 nn, .slice p n c] 35))) := (Kept.refl w).alloc _
    have ha : a.size ≤ 6 := he.a
    have hb : b.size ≤ 6 := he.b
    have b1 : ¬ 9223372036854775807 < (a : ByteArray).size + (⟨#[46]⟩ : ByteArray).size := by simp only [lsz, List.length_cons, List.length_nil]; omega
    have c1 : ¬ 9223372036854775807 < a.size + 1 := by omega
    have b2 : ¬ 9223372036854775807 < (a ++ ⟨#[46]⟩ : ByteArray).size + (b : ByteArray).size := by simp only [ByteArray.size_append, lsz, List.length_cons, List.length_nil]; omega
    have c2 : ¬ 9223372036854775807 < a.size + 1 + b.size := by omega
    clear he
    go_enter Tryd.func10, Tryd.ntmps10
    go_wp2
    go_ret
    exact ⟨rfl, HK.out⟩

set_option maxRecDepth 100000 in
set_option maxHeartbeats 1000000 in
theorem ek6 {w : World} {p : Option Addr} {n c : Nat} {a b : ByteArray} {op nn : Int} {args : List ByteArray} (he : Sx ⟨6, a, b, op, nn, args⟩) (_h : Ag w p n c args) :
    Calls Tryd.prog 10 #[.agg #[.int .i64 6, .string a, .string b, .int .i64 op, .int .i64 nn, .slice p n c]] w fun x w' => x = .returned (.string (⟨#[110, 101, 119]⟩)) ∧ Kept w w' := by
    have HK : Hid (Kept w (w.alloc (.cells #[.int .i64 6, .string a, .string b, .int .i64 op, .int .i64 nn, .slice p n c] 35))) := (Kept.refl w).alloc _
    have ha : a.size ≤ 6 := he.a
    have hb : b.size ≤ 6 := he.b
    clear he
    go_enter Tryd.func10, Tryd.ntmps10
    go_wp2
    go_ret
    exact ⟨rfl, HK.out⟩

set_option maxRecDepth 100000 in
set_option maxHeartbeats 1000000 in
theorem ek7 {w : World} {p : Option Addr} {n c : Nat} {a b : ByteArray} {op nn : Int} {args : List ByteArray} (he : Sx ⟨7, a, b, op, nn, args⟩) (_h : Ag w p n c args) :
    Calls Tryd.prog 10 #[.agg #[.int .i64 7, .string a, .string b, .int .i64 op, .int .i64 nn, .slice p n c]] w fun x w' => x = .returned (.string (⟨#[38]⟩ ++ a)) ∧ Kept w w' := by
    have HK : Hid (Kept w (w.alloc (.cells #[.int .i64 7, .string a, .string b, .int .i64 op, .int .i64 nn, .slice p n c] 35))) := (Kept.refl w).alloc _
    have ha : a.size ≤ 6 := he.a
    have hb : b.size ≤ 6 := he.b
    have b1 : ¬ 9223372036854775807 < (⟨#[38]⟩ : ByteArray).size + (a : ByteArray).size := by simp only [lsz, List.length_cons, List.length_nil]; omega
    have c1 : ¬ 9223372036854775807 < 1 + a.size := by omega
    clear he
    go_enter Tryd.func10, Tryd.ntmps10
    go_wp2
    go_ret
    exact ⟨rfl, HK.out⟩

set_option maxRecDepth 100000 in
set_option maxHeartbeats 1000000 in
theorem ek8 {w : World} {p : Option Addr} {n c : Nat} {a b : ByteArray} {op nn : Int} {args : List ByteArray} (he : Sx ⟨8, a, b, op, nn, args⟩) (_h : Ag w p n c args) :
    Calls Tryd.prog 10 #[.agg #[.int .i64 8, .string a, .string b, .int .i64 op, .int .i64 nn, .slice p n c]] w fun x w' => x = .returned (.string (a ++ ⟨#[32]⟩ ++ sgn op ++ ⟨#[32]⟩ ++ b)) ∧ Kept w w' := by
    have HK : Hid (Kept w (w.alloc (.cells #[.int .i64 8, .string a, .string b, .int .i64 op, .int .i64 nn, .slice p n c] 35))) := (Kept.refl w).alloc _
    have ha : a.size ≤ 6 := he.a
    have hb : b.size ≤ 6 := he.b
    have hs := sgn_size op
    have HSg : Hid (∀ W, Calls Tryd.prog 14 #[.int .i64 op] W fun e w' => e = .returned (.string (sgn op)) ∧ w' = W) := fun W => sign_walk op W
    have b1 : ¬ 9223372036854775807 < (a : ByteArray).size + (⟨#[32]⟩ : ByteArray).size := by simp only [lsz, List.length_cons, List.length_nil]; omega
    have c1 : ¬ 9223372036854775807 < a.size + 1 := by omega
    have b2 : ¬ 9223372036854775807 < (a ++ ⟨#[32]⟩ : ByteArray).size + (sgn op : ByteArray).size := by simp only [ByteArray.size_append, lsz, List.length_cons, List.length_nil]; omega
    have c2 : ¬ 9223372036854775807 < a.size + 1 + (sgn op).size := by omega
    have b3 : ¬ 9223372036854775807 < (a ++ ⟨#[32]⟩ ++ sgn op : ByteArray).size + (⟨#[32]⟩ : ByteArray).size := by simp only [ByteArray.size_append, lsz, List.length_cons, List.length_nil]; omega
    have c3 : ¬ 9223372036854775807 < a.size + 1 + (sgn op).size + 1 := by omega
    have b4 : ¬ 9223372036854775807 < (a ++ ⟨#[32]⟩ ++ sgn op ++ ⟨#[32]⟩ : ByteArray).size + (b : ByteArray).size := by simp only [ByteArray.size_append, lsz, List.length_cons, List.length_nil]; omega
    have c4 : ¬ 9223372036854775807 < a.size + 1 + (sgn op).size + 1 + b.size := by omega
    have HSA : Hid (∀ W, Kept (w.alloc (.cells #[.int .i64 8, .string a, .string b, .int .i64 op, .int .i64 nn, .slice p n c] 35)) W → W.cell? ⟨w.heap.size, 1, none⟩ = some (.string a) ∧ W.cell? ⟨w.heap.size, 2, none⟩ = some (.string b) ∧ W.cell? ⟨w.heap.size, 3, none⟩ = some (.int .i64 op) ∧ W.cell? ⟨w.heap.size, 4, none⟩ = some (.int .i64 nn)) := fun W hW => by
      have hb := hW.block (alloc_at w _)
      refine ⟨?_, ?_, ?_, ?_⟩
      · rw [cell_of_row _ w.heap.size 1 _ _ _ hb]; rfl
      · rw [cell_of_row _ w.heap.size 2 _ _ _ hb]; rfl
      · rw [cell_of_row _ w.heap.size 3 _ _ _ hb]; rfl
      · rw [cell_of_row _ w.heap.size 4 _ _ _ hb]; rfl
    clear he
    generalize sgn op = sg at *
    go_enter Tryd.func10, Tryd.ntmps10
    go_wp2
    go_region_held3 (fun W => W.cell? ⟨w.heap.size, 1, none⟩ = some (.string a) ∧ W.cell? ⟨w.heap.size, 2, none⟩ = some (.string b) ∧ W.cell? ⟨w.heap.size, 3, none⟩ = some (.int .i64 op) ∧ W.cell? ⟨w.heap.size, 4, none⟩ = some (.int .i64 nn)) (exact HSA.out _ (by (repeat (first | assumption | exact Kept.refl _ | apply Kept.drew | apply Kept.alloc)))) (first
      | (go_at_call 14; (with_reducible refine (HSg.out _).mono ?_); rintro e w' ⟨rfl, rfl⟩))
    all_goals
      go_wp2
      go_ret
      exact ⟨rfl, HK.out.trans (by (repeat (first | assumption | exact Kept.refl _ | apply Kept.drew | apply Kept.alloc)))⟩

set_option maxRecDepth 100000 in
set_option maxHeartbeats 1000000 in
theorem ek9 {w : World} {p : Option Addr} {n c : Nat} {a b : ByteArray} {op nn : Int} {args : List ByteArray} (he : Sx ⟨9, a, b, op, nn, args⟩) (_h : Ag w p n c args) :
    Calls Tryd.prog 10 #[.agg #[.int .i64 9, .string a, .string b, .int .i64 op, .int .i64 nn, .slice p n c]] w fun x w' => x = .returned (.string (a ++ ⟨#[32]⟩ ++ sgn op ++ ⟨#[32]⟩ ++ dig nn)) ∧ Kept w w' := by
    have HK : Hid (Kept w (w.alloc (.cells #[.int .i64 9, .string a, .string b, .int .i64 op, .int .i64 nn, .slice p n c] 35))) := (Kept.refl w).alloc _
    have ha : a.size ≤ 6 := he.a
    have hb : b.size ≤ 6 := he.b
    have hs := sgn_size op
    have HSg : Hid (∀ W, Calls Tryd.prog 14 #[.int .i64 op] W fun e w' => e = .returned (.string (sgn op)) ∧ w' = W) := fun W => sign_walk op W
    have b1 : ¬ 9223372036854775807 < (a : ByteArray).size + (⟨#[32]⟩ : ByteArray).size := by simp only [lsz, List.length_cons, List.length_nil]; omega
    have c1 : ¬ 9223372036854775807 < a.size + 1 := by omega
    have b2 : ¬ 9223372036854775807 < (a ++ ⟨#[32]⟩ : ByteArray).size + (sgn op : ByteArray).size := by simp only [ByteArray.size_append, lsz, List.length_cons, List.length_nil]; omega
    have c2 : ¬ 9223372036854775807 < a.size + 1 + (sgn op).size := by omega
    have b3 : ¬ 9223372036854775807 < (a ++ ⟨#[32]⟩ ++ sgn op : ByteArray).size + (⟨#[32]⟩ : ByteArray).size := by simp only [ByteArray.size_append, lsz, List.length_cons, List.length_nil]; omega
    have c3 : ¬ 9223372036854775807 < a.size + 1 + (sgn op).size + 1 := by omega
    have hd := dig_size (show I64 nn from he.n)
    have hnn : I64 nn := he.n
    have b4 : ¬ 9223372036854775807 < (a ++ ⟨#[32]⟩ ++ sgn op ++ ⟨#[32]⟩ : ByteArray).size + (dig nn : ByteArray).size := by simp only [ByteArray.size_append, lsz, List.length_cons, List.length_nil]; omega
    have c4 : ¬ 9223372036854775807 < a.size + 1 + (sgn op).size + 1 + (dig nn).size := by omega
    have HSA : Hid (∀ W, Kept (w.alloc (.cells #[.int .i64 9, .string a, .string b, .int .i64 op, .int .i64 nn, .slice p n c] 35)) W → W.cell? ⟨w.heap.size, 1, none⟩ = some (.string a) ∧ W.cell? ⟨w.heap.size, 2, none⟩ = some (.string b) ∧ W.cell? ⟨w.heap.size, 3, none⟩ = some (.int .i64 op) ∧ W.cell? ⟨w.heap.size, 4, none⟩ = some (.int .i64 nn)) := fun W hW => by
      have hb := hW.block (alloc_at w _)
      refine ⟨?_, ?_, ?_, ?_⟩
      · rw [cell_of_row _ w.heap.size 1 _ _ _ hb]; rfl
      · rw [cell_of_row _ w.heap.size 2 _ _ _ hb]; rfl
      · rw [cell_of_row _ w.heap.size 3 _ _ _ hb]; rfl
      · rw [cell_of_row _ w.heap.size 4 _ _ _ hb]; rfl
    have HD : Hid (∀ W, Kept (w.alloc (.cells #[.int .i64 9, .string a, .string b, .int .i64 op, .int .i64 nn, .slice p n c] 35)) W → Calls Tryd.prog 16 #[.int .i64 nn] W fun e w' => e = .returned (.string (dig nn)) ∧ Kept (w.alloc (.cells #[.int .i64 9, .string a, .string b, .int .i64 op, .int .i64 nn, .slice p n c] 35)) w') := fun W hW => (digits_walk nn hnn W).mono fun e w' ⟨h1, h2⟩ => ⟨h1, hW.trans h2⟩
    clear he
    clear hnn
    generalize dig nn = dg at *
    generalize sgn op = sg at *
    go_enter Tryd.func10, Tryd.ntmps10
    go_wp2
    go_region_held3 (fun W => W.cell? ⟨w.heap.size, 1, none⟩ = some (.string a) ∧ W.cell? ⟨w.heap.size, 2, none⟩ = some (.string b) ∧ W.cell? ⟨w.heap.size, 3, none⟩ = some (.int .i64 op) ∧ W.cell? ⟨w.heap.size, 4, none⟩ = some (.int .i64 nn)) (exact HSA.out _ (by (repeat (first | assumption | exact Kept.refl _ | apply Kept.drew | apply Kept.alloc)))) (first
      | (go_at_call 14; (with_reducible refine (HSg.out _).mono ?_); rintro e w' ⟨rfl, rfl⟩)
      | (go_at_call 16; (with_reducible refine (HD.out _ ?_).mono ?_); (repeat (first | assumption | exact Kept.refl _ | apply Kept.drew | apply Kept.alloc)); rintro e w' ⟨rfl, hk⟩))
    all_goals
      go_wp2
      go_ret
      exact ⟨rfl, HK.out.trans (by (repeat (first | assumption | exact Kept.refl _ | apply Kept.drew | apply Kept.alloc)))⟩

set_option maxRecDepth 100000 in
set_option maxHeartbeats 1000000 in
theorem ek10 {w : World} {p : Option Addr} {n c : Nat} {a b : ByteArray} {op nn : Int} {args : List ByteArray} (he : Sx ⟨10, a, b, op, nn, args⟩) (h : Ag w p n c args) :
    Calls Tryd.prog 10 #[.agg #[.int .i64 10, .string a, .string b, .int .i64 op, .int .i64 nn, .slice p n c]] w fun x w' => x = .returned (.string (cal ⟨10, a, b, op, nn, args⟩)) ∧ Kept w w' := by
    have HK : Hid (Kept w (w.alloc (.cells #[.int .i64 10, .string a, .string b, .int .i64 op, .int .i64 nn, .slice p n c] 35))) := (Kept.refl w).alloc _
    have ha : a.size ≤ 6 := he.a
    have hb : b.size ≤ 6 := he.b
    have HD : Hid (Calls Tryd.prog 25 #[.agg #[.int .i64 10, .string a, .string b, .int .i64 op, .int .i64 nn, .slice p n c]] (w.alloc (.cells #[.int .i64 10, .string a, .string b, .int .i64 op, .int .i64 nn, .slice p n c] 35)) fun e w' => e = .returned (.string (cal ⟨10, a, b, op, nn, args⟩)) ∧ Kept (w.alloc (.cells #[.int .i64 10, .string a, .string b, .int .i64 op, .int .i64 nn, .slice p n c] 35)) w') := call_walk ⟨10, a, b, op, nn, args⟩ he (h.kept HK.out)
    clear he
    generalize cal ⟨10, a, b, op, nn, args⟩ = cl at *
    go_enter Tryd.func10, Tryd.ntmps10
    go_wp2_with (go_at_call 25; (with_reducible refine HD.out.mono ?_); rintro e w1 ⟨rfl, hk1⟩)
    go_ret
    exact ⟨rfl, HK.out.trans hk1⟩

set_option maxRecDepth 100000 in
set_option maxHeartbeats 1000000 in
theorem ek11 {w : World} {p : Option Addr} {n c : Nat} {a b : ByteArray} {op nn : Int} {args : List ByteArray} (he : Sx ⟨11, a, b, op, nn, args⟩) (h : Ag w p n c args) :
    Calls Tryd.prog 10 #[.agg #[.int .i64 11, .string a, .string b, .int .i64 op, .int .i64 nn, .slice p n c]] w fun x w' => x = .returned (.string (⟨#[42]⟩ ++ cal ⟨11, a, b, op, nn, args⟩)) ∧ Kept w w' := by
    have HK : Hid (Kept w (w.alloc (.cells #[.int .i64 11, .string a, .string b, .int .i64 op, .int .i64 nn, .slice p n c] 35))) := (Kept.refl w).alloc _
    have ha : a.size ≤ 6 := he.a
    have hb : b.size ≤ 6 := he.b
    have hcs : (cal ⟨11, a, b, op, nn, args⟩).size ≤ 40 := by have := he.lst; unfold cal; simp only [ByteArray.size_append, lsz, List.length_cons, List.length_nil] at *; omega
    have b1 : ¬ 9223372036854775807 < (⟨#[42]⟩ : ByteArray).size + (cal ⟨11, a, b, op, nn, args⟩ : ByteArray).size := by simp only [lsz, List.length_cons, List.length_nil]; omega
    have c1 : ¬ 9223372036854775807 < 1 + (cal ⟨11, a, b, op, nn, args⟩).size := by omega
    have HD : Hid (Calls Tryd.prog 25 #[.agg #[.int .i64 11, .string a, .string b, .int .i64 op, .int .i64 nn, .slice p n c]] (w.alloc (.cells #[.int .i64 11, .string a, .string b, .int .i64 op, .int .i64 nn, .slice p n c] 35)) fun e w' => e = .returned (.string (cal ⟨11, a, b, op, nn, args⟩)) ∧ Kept (w.alloc (.cells #[.int .i64 11, .string a, .string b, .int .i64 op, .int .i64 nn, .slice p n c] 35)) w') := call_walk ⟨11, a, b, op, nn, args⟩ he (h.kept HK.out)
    clear he
    generalize cal ⟨11, a, b, op, nn, args⟩ = cl at *
    go_enter Tryd.func10, Tryd.ntmps10
    go_wp2_with (go_at_call 25; (with_reducible refine HD.out.mono ?_); rintro e w1 ⟨rfl, hk1⟩)
    go_ret
    exact ⟨rfl, HK.out.trans hk1⟩

set_option maxRecDepth 100000 in
set_option maxHeartbeats 1000000 in
theorem ek0 {w : World} {p : Option Addr} {n c : Nat} {k : Int} {a b : ByteArray} {op nn : Int} {args : List ByteArray} (he : Sx ⟨k, a, b, op, nn, args⟩) (_h : Ag w p n c args) (hk : k < 1 ∨ 11 < k) :
    Calls Tryd.prog 10 #[.agg #[.int .i64 k, .string a, .string b, .int .i64 op, .int .i64 nn, .slice p n c]] w fun x w' => x = .returned (.string (⟨#[]⟩)) ∧ Kept w w' := by
    have HK : Hid (Kept w (w.alloc (.cells #[.int .i64 k, .string a, .string b, .int .i64 op, .int .i64 nn, .slice p n c] 35))) := (Kept.refl w).alloc _
    have ha : a.size ≤ 6 := he.a
    have hb : b.size ≤ 6 := he.b
    have n1 : ¬ k = 1 := by omega
    have n2 : ¬ k = 2 := by omega
    have n3 : ¬ k = 3 := by omega
    have n4 : ¬ k = 4 := by omega
    have n5 : ¬ k = 5 := by omega
    have n6 : ¬ k = 6 := by omega
    have n7 : ¬ k = 7 := by omega
    have n8 : ¬ k = 8 := by omega
    have n9 : ¬ k = 9 := by omega
    have n10 : ¬ k = 10 := by omega
    have n11 : ¬ k = 11 := by omega
    clear hk
    clear he
    go_enter Tryd.func10, Tryd.ntmps10
    go_wp2
    go_ret
    exact ⟨rfl, HK.out⟩

theorem expr_walk {w : World} {p : Option Addr} {n c : Nat} (e : Ex) (he : Sx e) (h : Ag w p n c e.args) :
    Calls Tryd.prog 10 #[.agg (ec e p n c)] w fun x w' => x = .returned (.string (ex e)) ∧ Kept w w' := by
  obtain ⟨k, a, b, op, nn, args⟩ := e
  by_cases ho : k < 1 ∨ 11 < k
  · rw [ex_out ho]
    exact ek0 he h ho
  · have : k = 1 ∨ k = 2 ∨ k = 3 ∨ k = 4 ∨ k = 5 ∨ k = 6 ∨ k = 7 ∨ k = 8 ∨ k = 9 ∨ k = 10 ∨ k = 11 := by omega
    rcases this with rfl | rfl | rfl | rfl | rfl | rfl | rfl | rfl | rfl | rfl | rfl
    · exact ek1 he h
    · exact ek2 he h
    · exact ek3 he h
    · exact ek4 he h
    · exact ek5 he h
    · exact ek6 he h
    · exact ek7 he h
    · exact ek8 he h
    · exact ek9 he h
    · exact ek10 he h
    · exact ek11 he h
end Go.Proofs.YtgdafolidifdoaaDoor.Tp
