/- The walks of the reference's Get, Put and Delete. Conditions: a list in order, of 1000 at most. -/
import Derived.Laws.Cover1
import Derived.Test.YtbpelhfbgjplbaaJZ
namespace Go.Proofs.Ytbpelhfbgjplbaa.Ca
open Go.ChangeShapes Go.WideShapes Go.ChangeAt Go.RowKit
open N (Kept)
open Q (kept_cell seq_iff got got_at got_no take_more)

set_option maxRecDepth 100000 in
set_option maxHeartbeats 2000000 in
theorem ref_put {w : World} {p : Option Addr} {n c : Nat} {l : List Pr} (h : Pl w p n l) (ho : Ord l) (hn : n ≤ 1000) (k v : ByteArray) :
    Calls Try.prog 15 #[.slice p n c, .string k, .string v] w fun e w' => ∃ p' n' c', e = .returned (.slice p' n' c') ∧ Pw w' w.heap.size p' n' c' ((ins k [(k, v)] l)) ∧ Kept w w' := by
  obtain ⟨i42, hi, hz0, hz1, hz2⟩ := info_parts info61
  obtain ⟨hl, b, off, hat, hcl⟩ := h
  have HL : Hid (l.length = n) := hl
  have HO : Hid (Ord l) := ho
  have AT : Hid (0 < n → p = some ⟨b, off, none⟩) := hat
  have HC : Hid (∀ i e, l[i]? = some e → w.cell? ⟨b, off + i * 2, none⟩ = some (.string e.1) ∧ w.cell? ⟨b, off + i * 2 + 1, none⟩ = some (.string e.2)) := hcl
  have S0 : Hid (Pw (w.alloc (.cells #[] 61)) w.heap.size (some ⟨w.heap.size, 0, none⟩) 0 0 ([])) := ⟨World.ownsRow_made w #[] 0 (Nat.le_refl _) (Nat.zero_le _) rfl⟩
  have K0 : Hid (Kept w (w.alloc (.cells #[] 61))) := (Kept.refl w).alloc _
  clear hl ho hat hcl
  go_enter Try.func15, Try.ntmps15
  go_wp2
  go_loopg [7, 8, 9] n (fun gg ov dv iv wx => ∃ (i m qc : Nat) (q : Option Addr) (dn : Bool) (out : List Pr), ov = .slice q m qc ∧ dv = .bool dn ∧ iv = .int .i64 (i : Nat) ∧ Hid (gg = n - i) ∧ i ≤ n ∧ Hid (m ≤ i + dn.toNat) ∧ Hid (Pw wx w.heap.size q m qc (out)) ∧ Hid (Kept w wx) ∧ Hid (Pt k v l i dn out))
  case atStart => exact ⟨0, 0, 0, _, false, [], rfl, rfl, rfl, rfl, Nat.zero_le _, Nat.zero_le _, S0, K0, Pt.start k v l⟩
  case round =>
    obtain ⟨i, m, qc, q, dn, out, rfl, rfl, rfl, hg, hin, HMM, O, K, P⟩ := hrel
    clear S0 K0
    by_cases h1 : (i : Int) < (n : Int)
    · obtain rfl := AT.out (by omega)
      obtain ⟨x, hx⟩ : ∃ x, l[i]? = some x := ⟨_, List.getElem?_eq_getElem (by rw [HL.out]; omega)⟩
      have HX : Hid (l[i]? = some x) := hx
      obtain ⟨c0', c1'⟩ := HC.out i x hx
      have c0 := kept_cell K.out c0'
      have c1 := kept_cell K.out c1'
      clear c0' c1' hx
      cases dn with
      | true =>
        have hm : m ≤ i + 1 := HMM.out
        go_wp2_with (at_builtin; refine wpList_append_own _ rfl _ _ 29 rfl w.heap.size 61 i42 _ 2 32 Try.underlying29 hi hz0 hz1 hz2 rfl (by decide) (.slice q m qc) m (prs out) rfl (O.out.kept ((Kept.refl wr).alloc (.cells #[.string x.1, .string x.2] 61))).out ⟨wr.heap.size, 0, none⟩ 1 1 [.string x.1, .string x.2] rfl rfl (two_cellsA wr _ _ 61) (by intro u hu; simp at hu; rcases hu with rfl | rfl <;> rfl) (by unfold maxLen; omega) (by omega) (Nat.le_trans K.out.size ((Kept.refl wr).alloc (.cells #[.string x.1, .string x.2] 61)).size) ?_; intro v' w5 o5 g5 _; obtain ⟨kq, c5, rfl⟩ := owns_shape o5; have O5 : Hid (Pw w5 w.heap.size kq (m + 1) c5 ((out ++ [x]))) := own_pairs o5; have K5 : Hid (Kept w w5) := grown_pw (K.out.trans ((Kept.refl wr).alloc _)) (O.out.kept ((Kept.refl wr).alloc _)) g5; clear o5 g5 O K)
        go_roundg (n - (i + 1))
        case measure => rw [hg.out]; omega
        case rel => exact ⟨i + 1, m + 1, _, _, true, _, rfl, rfl, by go_num, rfl, by omega, (show m + 1 ≤ i + 1 + 1 by omega), O5, K5, Pt.later HO.out P.out HX.out⟩
      | false =>
        have hm : m ≤ i := HMM.out
        by_cases hs : Op.bytesLess x.1.toList k.toList = true
        · go_wp2_with (at_builtin; refine wpList_append_own _ rfl _ _ 29 rfl w.heap.size 61 i42 _ 2 32 Try.underlying29 hi hz0 hz1 hz2 rfl (by decide) (.slice q m qc) m (prs out) rfl (O.out.kept ((Kept.refl wr).alloc (.cells #[.string x.1, .string x.2] 61))).out ⟨wr.heap.size, 0, none⟩ 1 1 [.string x.1, .string x.2] rfl rfl (two_cellsA wr _ _ 61) (by intro u hu; simp at hu; rcases hu with rfl | rfl <;> rfl) (by unfold maxLen; omega) (by omega) (Nat.le_trans K.out.size ((Kept.refl wr).alloc (.cells #[.string x.1, .string x.2] 61)).size) ?_; intro v' w5 o5 g5 _; obtain ⟨kq, c5, rfl⟩ := owns_shape o5; have O5 : Hid (Pw w5 w.heap.size kq (m + 1) c5 ((out ++ [x]))) := own_pairs o5; have K5 : Hid (Kept w w5) := grown_pw (K.out.trans ((Kept.refl wr).alloc _)) (O.out.kept ((Kept.refl wr).alloc _)) g5; clear o5 g5 O K)
          go_roundg (n - (i + 1))
          case measure => rw [hg.out]; omega
          case rel => exact ⟨i + 1, m + 1, _, _, false, _, rfl, rfl, by go_num, rfl, by omega, (show m + 1 ≤ i + 1 + 0 by omega), O5, K5, P.out.below HX.out hs⟩
        · have hs' : Op.bytesLess x.1.toList k.toList = false := by simpa using hs
          clear hs
          by_cases he : x.1 = k
          · have HE : Hid (x.1 = k) := he
            have he' : (x.1.toList == k.toList) = true := by rw [seq_iff]; simpa using he
            clear he
            go_wp2_with (at_builtin; refine wpList_append_own _ rfl _ _ 29 rfl w.heap.size 61 i42 _ 2 32 Try.underlying29 hi hz0 hz1 hz2 rfl (by decide) (.slice q m qc) m (prs out) rfl (O.out.kept ((Kept.refl wr).alloc (.cells #[.string k, .string v] 61))).out ⟨wr.heap.size, 0, none⟩ 1 1 [.string k, .string v] rfl rfl (two_cellsA wr _ _ 61) (by intro u hu; simp at hu; rcases hu with rfl | rfl <;> rfl) (by unfold maxLen; omega) (by omega) (Nat.le_trans K.out.size ((Kept.refl wr).alloc (.cells #[.string k, .string v] 61)).size) ?_; intro v' w5 o5 g5 _; obtain ⟨kq, c5, rfl⟩ := owns_shape o5; have O5 : Hid (Pw w5 w.heap.size kq (m + 1) c5 ((out ++ [(k, v)]))) := own_pairs (x := (k, v)) o5; have K5 : Hid (Kept w w5) := grown_pw (K.out.trans ((Kept.refl wr).alloc _)) (O.out.kept ((Kept.refl wr).alloc _)) g5; have c05 : w5.cell? ⟨b, off + i * 2, none⟩ = some (.string x.1) := kept_cell K5.out (HC.out i x HX.out).1; have c15 : w5.cell? ⟨b, off + i * 2 + 1, none⟩ = some (.string x.2) := kept_cell K5.out (HC.out i x HX.out).2; clear o5 g5 O K)
            go_roundg (n - (i + 1))
            case measure => rw [hg.out]; omega
            case rel => exact ⟨i + 1, m + 1, _, _, true, _, rfl, rfl, by go_num, rfl, by omega, (show m + 1 ≤ i + 1 + 1 by omega), O5, K5, P.out.same HX.out HE.out⟩
          · have HE : Hid (¬ x.1 = k) := he
            have he' : (x.1.toList == k.toList) = false := by rw [seq_iff]; simpa using he
            clear he
            go_wp2_with (first
              | (at_builtin; refine wpList_append_own _ rfl _ _ 29 rfl w.heap.size 61 i42 _ 2 32 Try.underlying29 hi hz0 hz1 hz2 rfl (by decide) (.slice q m qc) m (prs out) rfl (O.out.kept ((Kept.refl wr).alloc (.cells #[.string k, .string v] 61))).out ⟨wr.heap.size, 0, none⟩ 1 1 [.string k, .string v] rfl rfl (two_cellsA wr _ _ 61) (by intro u hu; simp at hu; rcases hu with rfl | rfl <;> rfl) (by unfold maxLen; omega) (by omega) (Nat.le_trans K.out.size ((Kept.refl wr).alloc (.cells #[.string k, .string v] 61)).size) ?_; intro v' w5 o5 g5 _; obtain ⟨kq, c5, rfl⟩ := owns_shape o5; have O5 : Hid (Pw w5 w.heap.size kq (m + 1) c5 ((out ++ [(k, v)]))) := own_pairs (x := (k, v)) o5; have K5 : Hid (Kept w w5) := grown_pw (K.out.trans ((Kept.refl wr).alloc _)) (O.out.kept ((Kept.refl wr).alloc _)) g5; have c05 : w5.cell? ⟨b, off + i * 2, none⟩ = some (.string x.1) := kept_cell K5.out (HC.out i x HX.out).1; have c15 : w5.cell? ⟨b, off + i * 2 + 1, none⟩ = some (.string x.2) := kept_cell K5.out (HC.out i x HX.out).2; clear o5 g5 O K c0 c1)
              | (at_builtin; refine wpList_append_own _ rfl _ _ 29 rfl w.heap.size 61 i42 _ 2 32 Try.underlying29 hi hz0 hz1 hz2 rfl (by decide) (.slice kq (m + 1) c5) (m + 1) (prs (out ++ [(k, v)])) rfl (O5.out.kept ((Kept.refl w5).alloc (.cells #[.string x.1, .string x.2] 61))).out ⟨w5.heap.size, 0, none⟩ 1 1 [.string x.1, .string x.2] rfl rfl (two_cellsA w5 _ _ 61) (by intro u hu; simp at hu; rcases hu with rfl | rfl <;> rfl) (by unfold maxLen; omega) (by omega) (Nat.le_trans K5.out.size ((Kept.refl w5).alloc (.cells #[.string x.1, .string x.2] 61)).size) ?_; intro v6 w6 o6 g6 _; obtain ⟨kq6, c6, rfl⟩ := owns_shape o6; have O6 : Hid (Pw w6 w.heap.size kq6 (m + 1 + 1) c6 ((out ++ [(k, v)] ++ [x]))) := own_pairs o6; have K6 : Hid (Kept w w6) := grown_pw (K5.out.trans ((Kept.refl w5).alloc _)) (O5.out.kept ((Kept.refl w5).alloc _)) g6; clear o6 g6 O5 K5))
            go_roundg (n - (i + 1))
            case measure => rw [hg.out]; omega
            case rel => exact ⟨i + 1, m + 1 + 1, _, _, true, _, rfl, rfl, by go_num, rfl, by omega, (show m + 1 + 1 ≤ i + 1 + 1 by omega), O6, K6, P.out.above HX.out hs' HE.out⟩
    · cases dn with
      | true =>
        go_wp2
        go_ret
        exact ⟨q, m, qc, rfl, by rw [← P.out.done (by rw [HL.out]; omega)]; exact O.out, K.out⟩
      | false =>
        have hm : m ≤ i := HMM.out
        go_wp2_with (at_builtin; refine wpList_append_own _ rfl _ _ 29 rfl w.heap.size 61 i42 _ 2 32 Try.underlying29 hi hz0 hz1 hz2 rfl (by decide) (.slice q m qc) m (prs out) rfl (O.out.kept ((Kept.refl wr).alloc (.cells #[.string k, .string v] 61))).out ⟨wr.heap.size, 0, none⟩ 1 1 [.string k, .string v] rfl rfl (two_cellsA wr _ _ 61) (by intro u hu; simp at hu; rcases hu with rfl | rfl <;> rfl) (by unfold maxLen; omega) (by omega) (Nat.le_trans K.out.size ((Kept.refl wr).alloc (.cells #[.string k, .string v] 61)).size) ?_; intro v' w5 o5 g5 _; obtain ⟨kq, c5, rfl⟩ := owns_shape o5; have O5 : Hid (Pw w5 w.heap.size kq (m + 1) c5 ((out ++ [(k, v)]))) := own_pairs (x := (k, v)) o5; have K5 : Hid (Kept w w5) := grown_pw (K.out.trans ((Kept.refl wr).alloc _)) (O.out.kept ((Kept.refl wr).alloc _)) g5; clear o5 g5 O K)
        go_ret
        exact ⟨kq, m + 1, c5, rfl, by rw [← P.out.undone (by rw [HL.out]; omega)]; exact O5.out, K5.out⟩
end Go.Proofs.Ytbpelhfbgjplbaa.Ca
