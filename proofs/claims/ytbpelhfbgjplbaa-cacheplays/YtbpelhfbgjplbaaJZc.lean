/- The walks of the reference's Get, Put and Delete. Conditions: a list in order, of 1000 at most. -/
import Derived.Laws.Cover1
import Derived.Test.YtbpelhfbgjplbaaJZ
namespace Go.Proofs.Ytbpelhfbgjplbaa.Ca
open Go.ChangeShapes Go.WideShapes Go.ChangeAt Go.RowKit
open N (Kept)
open Q (kept_cell seq_iff got got_at got_no take_more)

set_option maxRecDepth 100000 in
set_option maxHeartbeats 2000000 in
theorem ref_get {w : World} {p : Option Addr} {n c : Nat} {l : List Pr} (h : Pl w p n l) (hn : n ≤ 1000) (k : ByteArray) :
    Calls Try.prog 8 #[.slice p n c, .string k] w fun e w' => e = .returned (.tuple #[.string ((got k l).getD ⟨#[]⟩), .bool (got k l).isSome]) ∧ w' = w := by
  obtain ⟨hl, b, off, hat, hcl⟩ := h
  have HL : Hid (l.length = n) := hl
  have AT : Hid (0 < n → p = some ⟨b, off, none⟩) := hat
  have HC : Hid (∀ i e, l[i]? = some e → w.cell? ⟨b, off + i * 2, none⟩ = some (.string e.1) ∧ w.cell? ⟨b, off + i * 2 + 1, none⟩ = some (.string e.2)) := hcl
  clear hl hat hcl
  go_enter Try.func8, Try.ntmps8
  go_wp2
  go_loopg [6] n (fun gg iv wx => ∃ i : Nat, iv = .int .i64 (i : Nat) ∧ Hid (gg = n - i) ∧ i ≤ n ∧ Hid (∀ e ∈ l.take i, e.1 ≠ k) ∧ wx = w)
  case atStart => exact ⟨0, rfl, rfl, Nat.zero_le _, (fun e h => by simp at h), rfl⟩
  case round =>
    obtain ⟨i, rfl, hg, hin, HN, rfl⟩ := hrel
    by_cases h1 : (i : Int) < (n : Int)
    · obtain rfl := AT.out (by omega)
      obtain ⟨x, hx⟩ : ∃ x, l[i]? = some x := ⟨_, List.getElem?_eq_getElem (by rw [HL.out]; omega)⟩
      have HX : Hid (l[i]? = some x) := hx
      obtain ⟨c0, c1⟩ := HC.out i x hx
      clear hx
      by_cases he : x.1 = k
      · have hgt : got k l = some x.2 := got_at HX.out he HN.out
        have he' : (x.1.toList == k.toList) = true := by rw [seq_iff]; simpa using he
        have HGt : Hid (got k l = some x.2) := hgt
        clear he hgt
        go_wp2
        go_ret2
        rw [HGt.out]
        exact ⟨rfl, rfl⟩
      · have HE : Hid (¬ x.1 = k) := he
        have he' : (x.1.toList == k.toList) = false := by rw [seq_iff]; simpa using he
        clear he
        go_wp2
        go_roundg (n - (i + 1))
        case measure => rw [hg.out]; omega
        case rel =>
          refine ⟨i + 1, by go_num, rfl, by omega, ?_, rfl⟩
          intro e he
          rw [take_more HX.out] at he
          rcases List.mem_append.1 he with h | h
          · exact HN.out e h
          · simp at h; subst h; exact HE.out
    · have hgt : got k l = none := got_no (by have := HN.out; rwa [List.take_of_length_le (by rw [HL.out]; omega)] at this)
      have HGt : Hid (got k l = none) := hgt
      clear hgt
      go_wp2
      go_ret2
      rw [HGt.out]
      exact ⟨rfl, rfl⟩

set_option maxRecDepth 100000 in
set_option maxHeartbeats 2000000 in
theorem ref_delete {w : World} {p : Option Addr} {n c : Nat} {l : List Pr} (h : Pl w p n l) (hn : n ≤ 1000) (k : ByteArray) :
    Calls Try.prog 11 #[.slice p n c, .string k] w fun e w' => ∃ p' n' c', e = .returned (.slice p' n' c') ∧ Pw w' w.heap.size p' n' c' ((wo k l)) ∧ Kept w w' := by
  unfold wo
  obtain ⟨i42, hi, hz0, hz1, hz2⟩ := info_parts info61
  obtain ⟨hl, b, off, hat, hcl⟩ := h
  have HL : Hid (l.length = n) := hl
  have AT : Hid (0 < n → p = some ⟨b, off, none⟩) := hat
  have HC : Hid (∀ i e, l[i]? = some e → w.cell? ⟨b, off + i * 2, none⟩ = some (.string e.1) ∧ w.cell? ⟨b, off + i * 2 + 1, none⟩ = some (.string e.2)) := hcl
  have S0 : Hid (Pw (w.alloc (.cells #[] 61)) w.heap.size (some ⟨w.heap.size, 0, none⟩) 0 0 ([])) := ⟨World.ownsRow_made w #[] 0 (Nat.le_refl _) (Nat.zero_le _) rfl⟩
  have K0 : Hid (Kept w (w.alloc (.cells #[] 61))) := (Kept.refl w).alloc _
  clear hl hat hcl
  go_enter Try.func11, Try.ntmps11
  go_wp2
  go_loopg [5, 6] n (fun gg ov iv wx => ∃ (i m qc : Nat) (q : Option Addr), ov = .slice q m qc ∧ iv = .int .i64 (i : Nat) ∧ Hid (gg = n - i) ∧ i ≤ n ∧ m ≤ i ∧ Hid (Pw wx w.heap.size q m qc (((l.take i).filter fun e => !decide (e.1 = k)))) ∧ Hid (Kept w wx))
  case atStart => exact ⟨0, 0, 0, _, rfl, rfl, rfl, Nat.zero_le _, Nat.zero_le _, S0, K0⟩
  case round =>
    obtain ⟨i, m, qc, q, rfl, rfl, hg, hin, hm, O, K⟩ := hrel
    clear S0 K0
    by_cases h1 : (i : Int) < (n : Int)
    · obtain rfl := AT.out (by omega)
      obtain ⟨x, hx⟩ : ∃ x, l[i]? = some x := ⟨_, List.getElem?_eq_getElem (by rw [HL.out]; omega)⟩
      have HX : Hid (l[i]? = some x) := hx
      obtain ⟨c0', c1'⟩ := HC.out i x hx
      have c0 := kept_cell K.out c0'
      have c1 := kept_cell K.out c1'
      clear c0' c1' hx
      obtain ⟨out, hout⟩ : ∃ out, out = (l.take i).filter fun e => !decide (e.1 = k) := ⟨_, rfl⟩
      rw [← hout] at O
      have HT : Hid ((l.take (i + 1)).filter (fun e => !decide (e.1 = k)) = out ++ [x].filter fun e => !decide (e.1 = k)) := by
        show _ = _
        rw [take_more HX.out, List.filter_append, hout]
      clear hout
      by_cases he : x.1 = k
      · have HT2 : Hid ((l.take (i + 1)).filter (fun e => !decide (e.1 = k)) = out) := by
          show _ = _
          rw [HT.out, List.filter_cons_of_neg (by simp [he])]; simp
        have he' : (x.1.toList == k.toList) = true := by rw [seq_iff]; simpa using he
        clear he HT
        go_wp2
        go_roundg (n - (i + 1))
        case measure => rw [hg.out]; omega
        case rel => exact ⟨i + 1, m, _, _, rfl, by go_num, rfl, by omega, by omega, by rw [HT2.out]; exact O, K⟩
      · have HT2 : Hid ((l.take (i + 1)).filter (fun e => !decide (e.1 = k)) = out ++ [x]) := by
          show _ = _
          rw [HT.out, List.filter_cons_of_pos (by simp [he])]; simp
        have he' : (x.1.toList == k.toList) = false := by rw [seq_iff]; simpa using he
        clear he HT
        go_wp2_with (at_builtin; refine wpList_append_own _ rfl _ _ 29 rfl w.heap.size 61 i42 _ 2 32 Try.underlying29 hi hz0 hz1 hz2 rfl (by decide) (.slice q m qc) m (prs out) rfl (O.out.kept ((Kept.refl wr).alloc (.cells #[.string x.1, .string x.2] 61))).out ⟨wr.heap.size, 0, none⟩ 1 1 [.string x.1, .string x.2] rfl rfl (two_cellsA wr _ _ 61) (by intro u hu; simp at hu; rcases hu with rfl | rfl <;> rfl) (by unfold maxLen; omega) (by omega) (Nat.le_trans K.out.size ((Kept.refl wr).alloc (.cells #[.string x.1, .string x.2] 61)).size) ?_; intro v' w5 o5 g5 _; obtain ⟨kq, c5, rfl⟩ := owns_shape o5; have O5 : Hid (Pw w5 w.heap.size kq (m + 1) c5 ((out ++ [x]))) := own_pairs o5; have K5 : Hid (Kept w w5) := grown_pw (K.out.trans ((Kept.refl wr).alloc _)) (O.out.kept ((Kept.refl wr).alloc _)) g5; clear o5 g5 O K)
        go_roundg (n - (i + 1))
        case measure => rw [hg.out]; omega
        case rel => exact ⟨i + 1, m + 1, _, _, rfl, by go_num, rfl, by omega, by omega, by rw [HT2.out]; exact O5, K5⟩
    · go_wp2
      go_ret
      refine ⟨q, m, qc, rfl, ?_, K.out⟩
      have := O.out
      rwa [List.take_of_length_le (by rw [HL.out]; omega)] at this

end Go.Proofs.Ytbpelhfbgjplbaa.Ca
