/- The walks of the statements' reference of sets: Of, Or, And, Less, Same. Conditions: 1000 numbers at most, and those that each row names. -/
import Derived.Deep.QuietTactic
import Derived.BigQuiet
import Derived.Test.YtanccfbbaeocaaaLM
namespace Go.Proofs.Ytanccfbbaeocaaa.Bt
open Go.RowKit Go.Shelf

theorem take_snoc {zs : List Int} {i : Nat} {x : Int} (h : zs[i]? = some x) : zs.take (i + 1) = zs.take i ++ [x] := by rw [List.take_add_one, h]; rfl
theorem il_begun (w : World) : Il (w.alloc (.cells #[] 3)) (some ⟨w.heap.size, 0, none⟩) 0 0 [] := ⟨(own_begun w).rw⟩

set_option maxRecDepth 100000 in
set_option maxHeartbeats 2000000 in
theorem rof_walk {w : World} {p : Option Addr} {n c : Nat} {zs : List Int} (h : Il w p n c zs) (hn : n ≤ 1000) :
    Calls Try.prog 11 #[.slice p n c] w fun e w' => ∃ q m cc, e = .returned (.slice q m cc) ∧ Il w' q m cc (ror [] zs) ∧ Kept w w' := by
  have H : Hid (Il w p n c zs) := h
  have hsm := h.small
  have HL : Hid (zs.length = n) := h.len
  have H0 : Hid (Kept w (w.alloc (.cells #[] 3)) ∧ Il (w.alloc (.cells #[] 3)) (some ⟨w.heap.size, 0, none⟩) 0 0 (ror [] (zs.take 0))) := ⟨(Kept.refl w).alloc _, il_begun w⟩
  clear h
  go_enter Try.func11, Try.ntmps11
  go_wp2
  go_loopg [3, 4] n (fun g s3 s4 wr => ∃ (q : Option Addr) (m cc i : Nat), s3 = .slice q m cc ∧ s4 = .int .i64 (i : Nat) ∧ i ≤ n ∧ n - i ≤ g ∧ Hid (Kept w wr ∧ Il wr q m cc (ror [] (zs.take i))))
  case atStart => exact ⟨some ⟨w.heap.size, 0, none⟩, 0, 0, 0, rfl, rfl, Nat.zero_le _, by omega, H0⟩
  case round =>
    obtain ⟨q, m, cc, i, rfl, rfl, hi, hg, HI⟩ := hrel
    clear H0
    by_cases hlt : i < n
    · obtain ⟨x, hx⟩ : ∃ x, zs[i]? = some x := ⟨_, List.getElem?_eq_getElem (by rw [HL.out]; omega)⟩
      obtain ⟨b, o, rfl, c00⟩ := H.out.at hx
      have c0 := HI.out.1.cell c00
      have hf := rwith_walk HI.out.2 (by have := HI.out.2.len; have h5 := ror_len (b := zs.take i) (a := []); rw [List.length_take] at h5; simp only [List.length_nil] at h5; omega) x
      rw [← ror_snoc, ← take_snoc hx] at hf
      have HK : Hid (Kept w wr) := HI.out.1
      clear hx c00 HI
      go_wp2_with (go_at_call 26; (with_reducible refine hf.mono ?_); rintro e w1 ⟨q1, m1, c1, rfl, I1, k1⟩; have HN : Hid (Kept w w1 ∧ Il w1 q1 m1 c1 (ror [] (zs.take (i + 1)))) := ⟨HK.out.trans k1, I1⟩; clear I1 k1)
      go_roundg (n - (i + 1))
      case measure => omega
      case rel => exact ⟨q1, m1, c1, i + 1, rfl, by go_num, by omega, Nat.le_refl _, HN⟩
    · obtain rfl : i = n := by omega
      have he : zs.take i = zs := List.take_of_length_le (by rw [HL.out]; exact Nat.le_refl _)
      rw [he] at HI
      have h1 := HI.out.1
      have h2 := HI.out.2
      clear HI he
      go_wp2
      go_ret
      exact ⟨q, m, cc, rfl, h2, h1⟩

theorem flt_take {f : Int → Bool} {a : List Int} {i : Nat} {x : Int} (h : a[i]? = some x) : (a.take (i + 1)).filter f = (a.take i).filter f ++ if f x then [x] else [] := by
  rw [take_snoc h, List.filter_append, List.filter_cons]; simp

theorem take_eq {a b : List Int} {i : Nat} {x : Int} (h : a.take i = b.take i) (hx : a[i]? = some x) (hy : b[i]? = some x) : a.take (i + 1) = b.take (i + 1) := by
  rw [List.take_add_one, List.take_add_one, h, hx, hy]
end Go.Proofs.Ytanccfbbaeocaaa.Bt
