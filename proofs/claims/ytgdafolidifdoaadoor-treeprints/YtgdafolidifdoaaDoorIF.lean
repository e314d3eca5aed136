/- The walk of the reference's Expr. Conditions: names are short, numbers of 64 bits; strconv's table is laid. -/
import Derived.Test.YtgdafolidifdoaaDoorIE
namespace Go.Proofs.YtgdafolidifdoaaDoor.Tp
open Go.ChangeShapes Go.WideShapes Go.ChangeAt Go.RowKit

set_option maxRecDepth 100000 in
set_option maxHeartbeats 4000000 in
theorem rexpr_walk {w : World} {p : Option Addr} {n c : Nat} (hL : Lds w) (e : Ex) (he : Sx e) (h : Ag w p n c e.args) :
    Calls Tryd.prog 11 #[.agg (ec e p n c)] w fun x w' => x = .returned (.string (ex e)) ∧ Kept w w' := by
  have hl := he.lst
  have ha := he.a
  have hb := he.b
  have hs := sgn_size e.op
  have hd := dig_size he.n
  have HX : Hid (∀ i : Nat, e.k = (i : Nat) → i < 12 → (exl e)[i]? = some (ex e)) := fun i h1 h2 => exl_at h1 h2
  have HO : Hid (e.k < 0 ∨ 12 ≤ e.k → ex e = ⟨#[]⟩) := fun h => ex_out (by omega)
  have HE : Hid (exl e = [⟨#[]⟩, dig e.n, ⟨#[110, 117, 108, 108]⟩, e.a, ⟨#[64]⟩ ++ e.a, e.a ++ ⟨#[46]⟩ ++ e.b, ⟨#[110, 101, 119]⟩, ⟨#[38]⟩ ++ e.a, e.a ++ ⟨#[32]⟩ ++ sgn e.op ++ ⟨#[32]⟩ ++ e.b, e.a ++ ⟨#[32]⟩ ++ sgn e.op ++ ⟨#[32]⟩ ++ dig e.n, e.a ++ ⟨#[40]⟩ ++ lst e.args ++ ⟨#[41]⟩, ⟨#[42]⟩ ++ e.a ++ ⟨#[40]⟩ ++ lst e.args ++ ⟨#[41]⟩]) := rfl
  generalize ex e = res at *
  generalize exl e = rl at *
  have hop := he.op
  have hn := he.n
  have hk1 := he.k.1
  have hk2 := he.k.2
  clear he
  obtain ⟨k, a, b, op, nn, args⟩ := e
  unfold ec
  dsimp only at *
  have kA : Kept w (w.alloc (.cells #[.int .i64 k, .string a, .string b, .int .i64 op, .int .i64 nn, .slice p n c] 35)) := (Kept.refl w).alloc _
  have HK : Hid (Kept w (w.alloc (.cells #[.int .i64 k, .string a, .string b, .int .i64 op, .int .i64 nn, .slice p n c] 35))) := kA
  have HF : Hid (Calls Tryd.prog 26 #[.int .i64 nn, .int .i64 10] (w.alloc (.cells #[.int .i64 k, .string a, .string b, .int .i64 op, .int .i64 nn, .slice p n c] 35)) fun e w' => e = .returned (.string (dig nn)) ∧ Kept (w.alloc (.cells #[.int .i64 k, .string a, .string b, .int .i64 op, .int .i64 nn, .slice p n c] 35)) w') := format_walk (hL.kept kA) nn hn
  have HS : Hid (∀ W, Kept (w.alloc (.cells #[.int .i64 k, .string a, .string b, .int .i64 op, .int .i64 nn, .slice p n c] 35)) W → Calls Tryd.prog 15 #[.int .i64 op] W fun e w' => e = .returned (.string (sgn op)) ∧ Kept (w.alloc (.cells #[.int .i64 k, .string a, .string b, .int .i64 op, .int .i64 nn, .slice p n c] 35)) w') := fun W hW => (rsign_walk op hop W).mono fun e w' ⟨h1, h2⟩ => ⟨h1, hW.trans h2⟩
  have HJ : Hid (∀ W, Kept (w.alloc (.cells #[.int .i64 k, .string a, .string b, .int .i64 op, .int .i64 nn, .slice p n c] 35)) W → Calls Tryd.prog 27 #[.slice p n c] W fun e w' => e = .returned (.string (lst args)) ∧ w' = W) := fun W hW => list_walk ((h.kept kA).kept hW) (by omega)
  have HSA : Hid (∀ W, Kept (w.alloc (.cells #[.int .i64 k, .string a, .string b, .int .i64 op, .int .i64 nn, .slice p n c] 35)) W → W.cell? ⟨w.heap.size, 1, none⟩ = some (.string a) ∧ W.cell? ⟨w.heap.size, 2, none⟩ = some (.string b) ∧ W.cell? ⟨w.heap.size, 3, none⟩ = some (.int .i64 op) ∧ W.cell? ⟨w.heap.size, 5, none⟩ = some (.slice p n c)) := fun W hW => by
    have hb := hW.block (alloc_at w _)
    refine ⟨?_, ?_, ?_, ?_⟩
    · rw [cell_of_row _ w.heap.size 1 _ _ _ hb]; rfl
    · rw [cell_of_row _ w.heap.size 2 _ _ _ hb]; rfl
    · rw [cell_of_row _ w.heap.size 3 _ _ _ hb]; rfl
    · rw [cell_of_row _ w.heap.size 5 _ _ _ hb]; rfl
  have HS0 : Hid (∀ W, Kept (w.alloc (.cells #[.int .i64 k, .string a, .string b, .int .i64 op, .int .i64 nn, .slice p n c] 35)) W → W.cell? ⟨w.heap.size, 0, none⟩ = some (.int .i64 k)) := fun W hW => by
    rw [cell_of_row _ w.heap.size 0 _ _ _ (hW.block (alloc_at w _))]; rfl
  clear hL h kA hop hn
  have b1 : ¬ 9223372036854775807 < (⟨#[64]⟩ : ByteArray).size + (a : ByteArray).size := by simp only [lsz, List.length_cons, List.length_nil]; omega
  have c1 : ¬ 9223372036854775807 < 1 + a.size := by omega
  have b2 : ¬ 9223372036854775807 < (a : ByteArray).size + (⟨#[46]⟩ : ByteArray).size := by simp only [lsz, List.length_cons, List.length_nil]; omega
  have c2 : ¬ 9223372036854775807 < a.size + 1 := by omega
  have b3 : ¬ 9223372036854775807 < (a ++ ⟨#[46]⟩ : ByteArray).size + (b : ByteArray).size := by simp only [ByteArray.size_append, lsz, List.length_cons, List.length_nil]; omega
  have c3 : ¬ 9223372036854775807 < a.size + 1 + b.size := by omega
  have b4 : ¬ 9223372036854775807 < (⟨#[38]⟩ : ByteArray).size + (a : ByteArray).size := by simp only [lsz, List.length_cons, List.length_nil]; omega
  have c4 : ¬ 9223372036854775807 < 1 + a.size := by omega
  have b5 : ¬ 9223372036854775807 < (a : ByteArray).size + (⟨#[32]⟩ : ByteArray).size := by simp only [lsz, List.length_cons, List.length_nil]; omega
  have c5 : ¬ 9223372036854775807 < a.size + 1 := by omega
  have b6 : ¬ 9223372036854775807 < (a ++ ⟨#[32]⟩ : ByteArray).size + (sgn op : ByteArray).size := by simp only [ByteArray.size_append, lsz, List.length_cons, List.length_nil]; omega
  have c6 : ¬ 9223372036854775807 < a.size + 1 + (sgn op).size := by omega
  have b7 : ¬ 9223372036854775807 < (a ++ ⟨#[32]⟩ ++ sgn op : ByteArray).size + (⟨#[32]⟩ : ByteArray).size := by simp only [ByteArray.size_append, lsz, List.length_cons, List.length_nil]; omega
  have c7 : ¬ 9223372036854775807 < a.size + 1 + (sgn op).size + 1 := by omega
  have b8 : ¬ 9223372036854775807 < (a ++ ⟨#[32]⟩ ++ sgn op ++ ⟨#[32]⟩ : ByteArray).size + (b : ByteArray).size := by simp only [ByteArray.size_append, lsz, List.length_cons, List.length_nil]; omega
  have c8 : ¬ 9223372036854775807 < a.size + 1 + (sgn op).size + 1 + b.size := by omega
  have b9 : ¬ 9223372036854775807 < (a ++ ⟨#[32]⟩ ++ sgn op ++ ⟨#[32]⟩ : ByteArray).size + (dig nn : ByteArray).size := by simp only [ByteArray.size_append, lsz, List.length_cons, List.length_nil]; omega
  have c9 : ¬ 9223372036854775807 < a.size + 1 + (sgn op).size + 1 + (dig nn).size := by omega
  have b10 : ¬ 9223372036854775807 < (a : ByteArray).size + (⟨#[40]⟩ : ByteArray).size := by simp only [lsz, List.length_cons, List.length_nil]; omega
  have c10 : ¬ 9223372036854775807 < a.size + 1 := by omega
  have b11 : ¬ 9223372036854775807 < (a ++ ⟨#[40]⟩ : ByteArray).size + (lst args : ByteArray).size := by simp only [ByteArray.size_append, lsz, List.length_cons, List.length_nil]; omega
  have c11 : ¬ 9223372036854775807 < a.size + 1 + (lst args).size := by omega
  have b12 : ¬ 9223372036854775807 < (a ++ ⟨#[40]⟩ ++ lst args : ByteArray).size + (⟨#[41]⟩ : ByteArray).size := by simp only [ByteArray.size_append, lsz, List.length_cons, List.length_nil]; omega
  have c12 : ¬ 9223372036854775807 < a.size + 1 + (lst args).size + 1 := by omega
  have b13 : ¬ 9223372036854775807 < (⟨#[42]⟩ : ByteArray).size + (a : ByteArray).size := by simp only [lsz, List.length_cons, List.length_nil]; omega
  have c13 : ¬ 9223372036854775807 < 1 + a.size := by omega
  have b14 : ¬ 9223372036854775807 < (⟨#[42]⟩ ++ a : ByteArray).size + (⟨#[40]⟩ : ByteArray).size := by simp only [ByteArray.size_append, lsz, List.length_cons, List.length_nil]; omega
  have c14 : ¬ 9223372036854775807 < 1 + a.size + 1 := by omega
  have b15 : ¬ 9223372036854775807 < (⟨#[42]⟩ ++ a ++ ⟨#[40]⟩ : ByteArray).size + (lst args : ByteArray).size := by simp only [ByteArray.size_append, lsz, List.length_cons, List.length_nil]; omega
  have c15 : ¬ 9223372036854775807 < 1 + a.size + 1 + (lst args).size := by omega
  have b16 : ¬ 9223372036854775807 < (⟨#[42]⟩ ++ a ++ ⟨#[40]⟩ ++ lst args : ByteArray).size + (⟨#[41]⟩ : ByteArray).size := by simp only [ByteArray.size_append, lsz, List.length_cons, List.length_nil]; omega
  have c16 : ¬ 9223372036854775807 < 1 + a.size + 1 + (lst args).size + 1 := by omega
  generalize lst args = ls at *
  generalize sgn op = sg at *
  generalize dig nn = dg at *
  go_enter Tryd.func11, Tryd.ntmps11
  go_wp2_with (go_at_call 26; (with_reducible refine HF.out.mono ?_); rintro e w1 ⟨rfl, hk1⟩)
  go_region_held3 (fun W => W.cell? ⟨w.heap.size, 1, none⟩ = some (.string a) ∧ W.cell? ⟨w.heap.size, 2, none⟩ = some (.string b) ∧ W.cell? ⟨w.heap.size, 3, none⟩ = some (.int .i64 op) ∧ W.cell? ⟨w.heap.size, 5, none⟩ = some (.slice p n c)) (exact HSA.out _ (by (repeat (first | assumption | exact Kept.refl _ | apply Kept.drew | apply Kept.alloc)))) (first
    | (go_at_call 15; (with_reducible refine (HS.out _ ?_).mono ?_); (repeat (first | assumption | exact Kept.refl _ | apply Kept.drew | apply Kept.alloc)); rintro e w' ⟨rfl, hk⟩)
    | (go_at_call 27; (with_reducible refine (HJ.out _ ?_).mono ?_); (repeat (first | assumption | exact Kept.refl _ | apply Kept.drew | apply Kept.alloc)); rintro e w' ⟨rfl, rfl⟩))
  have HKW : Hid (∀ o, Kept w (w'.alloc o)) := fun o => (HK.out.trans hk).alloc o
  have c0 : ∀ o, (w'.alloc o).cell? ⟨w.heap.size, 0, none⟩ = some (.int .i64 k) := fun o => HS0.out _ (hk.alloc o)
  by_cases hn0 : k < 0
  · have he := HO.out (.inl hn0)
    subst he
    clear HO HX HE
    go_wp2
    go_ret
    exact ⟨rfl, HKW.out _⟩
  · by_cases hm : 12 ≤ k
    · have he := HO.out (.inr hm)
      subst he
      clear HO HX HE
      go_wp2
      go_ret
      exact ⟨rfl, HKW.out _⟩
    · obtain ⟨i, rfl⟩ : ∃ i : Nat, k = (i : Nat) := ⟨k.toNat, by omega⟩
      have hi : i < 12 := by omega
      have hc := row_at w' rl #[.string ⟨#[]⟩, .string dg, .string ⟨#[110, 117, 108, 108]⟩, .string a, .string (⟨#[64]⟩ ++ a), .string (a ++ ⟨#[46]⟩ ++ b), .string ⟨#[110, 101, 119]⟩, .string (⟨#[38]⟩ ++ a), .string (a ++ ⟨#[32]⟩ ++ sg ++ ⟨#[32]⟩ ++ b), .string (a ++ ⟨#[32]⟩ ++ sg ++ ⟨#[32]⟩ ++ dg), .string (a ++ ⟨#[40]⟩ ++ ls ++ ⟨#[41]⟩), .string (⟨#[42]⟩ ++ a ++ ⟨#[40]⟩ ++ ls ++ ⟨#[41]⟩)] 9 (by rw [HE.out]; rfl) (Kept.refl _) (HX.out i rfl hi)
      clear HO HX HE hn0 hk1 hk2
      go_wp2
      go_ret
      exact ⟨rfl, HKW.out _⟩
end Go.Proofs.YtgdafolidifdoaaDoor.Tp
