/- The walk of the law on what waits in the keys alone, whole. Conditions: the numbers lie in memory as they came in. -/
import Derived.Test.YtabbfoaojmhajaaQW
namespace Go.Proofs.Ytabbfoaojmhajaa.Q
open Go.ChangeShapes Go.WideShapes Go.ChangeAt Go.RowKit
open N (Kept bs numL keyL Small Rd On)

theorem s1_new (w : World) : S1 w (((w.alloc kvO).alloc (.cells #[] 31)).alloc (quO w.heap.size 110)) 0 0 (w.heap.size + 1) 0 0 [] (fun _ => none) := by
  have k1 : Kept w (w.alloc kvO) := (Kept.refl w).alloc _
  have k2 : Kept (w.alloc kvO) ((w.alloc kvO).alloc (.cells #[] 31)) := (Kept.refl _).alloc _
  have q := qx_new ((kv_new w).kept k2) (by omega) (Nat.le_trans k1.size k2.size) (Qf.nil (small1 (x := 110) (by omega))) (by simp)
  rw [size_alloc, show (w.alloc kvO).heap.size = w.heap.size + 1 from size_alloc w kvO] at q
  have r := u_made (w.alloc kvO)
  rw [show (w.alloc kvO).heap.size = w.heap.size + 1 from size_alloc w kvO] at r
  have r2 : Ur ((w.alloc kvO).alloc (.cells #[] 31)) w.heap.size (w.heap.size + 1) 0 0 [] :=
    ⟨r.1, r.2.imp id fun ⟨g, cap, cur, a, b, e⟩ => ⟨g, cap, cur, a, by omega, e⟩⟩
  exact ⟨q, (fun k hk => absurd rfl hk), r2.kept ((Kept.refl _).alloc _), ((k1.trans k2).alloc _).out, Nat.le_refl _, Nat.le_refl _⟩
theorem S2.empty {w W W' : World} {a m g n c : Nat} {L : List Nat} {f : ByteArray → Option ByteArray} (h : S2 w W a n m g n c L f) (t : Aft W W' w.heap.size a w.heap.size m [110] (L.drop n).tail f) : Kv W' w.heap.size w.heap.size 0 (fun _ => Option.none) := by
  have hln := h.ul.len
  have hl := h.hL
  rw [List.drop_of_length_le (by omega)] at t
  obtain ⟨m', f', h1, h2, h3⟩ := t.next h.qx (by have := h.hm; omega) (by simp)
  have hz : ∀ k, f' k = Option.none := fun k => by
    cases e : f' k with
    | none => rfl
    | some x =>
      have := h2.f.empty (rest_next h.rest h3 k (by rw [e]; intro h; cases h))
      rw [e] at this; cases this
  have hm0 := h2.s.kv.zero.2 hz
  subst hm0
  exact h2.s.kv.congr fun k => (hz k).symm

set_option maxRecDepth 100000 in
set_option maxHeartbeats 4000000 in
theorem stays_law {w : World} {p : Option Addr} {n c : Nat} {A : List Nat} (h : Nl w p n c A) (many : Int) : Calls Try.prog 4 #[.slice p n c, .int .i64 many] w fun e w' => e = .returned (.bool true) ∧ Kept w w' := by
  obtain ⟨i0, hi0, hz0, hz1, hz2⟩ := info_parts info31
  obtain ⟨kk, hkk⟩ : ∃ kk, bits .and .i64 many 31 = kk := ⟨_, rfl⟩
  have H : Hid (Nl w p n c A) := h
  have HL : Hid (A.length = n) := h.len
  have hnc := h.le
  have hcm : c ≤ 9223372036854775807 := by have := h.cap; unfold maxLen at this; omega
  have P0 : Hid (S1 w (((w.alloc kvO).alloc (.cells #[] 31)).alloc (quO w.heap.size 110)) 0 0 (w.heap.size + 1) 0 0 [] (fun _ => none)) := s1_new w
  have hn1 := new_walk 23 (.pointer (some ⟨w.heap.size, 0, none⟩)) ⟨#[110]⟩ ((w.alloc (.cells #[.slice none 0 0, .slice none 0 0] 26)).alloc (.cells #[] 31))
  rw [size_alloc, size_alloc] at hn1
  clear h
  go_enter Try.func4, Try.ntmps4
  go_wp2_with (first
    | (go_at_call 6; (with_reducible refine hn1.mono ?_); rintro e w1 ⟨rfl, hw1⟩; have P1 : Hid (S1 w w1 0 0 (w.heap.size + 1) 0 0 [] (fun _ => none)) := (by (show S1 w w1 _ _ _ _ _ _ _); rw [hw1]; exact P0.out); clear hw1 hn1))
  clear P0
  go_loopg [6, 8] n (fun g s6 s8 wr => ∃ (i m gg k cc : Nat) (L : List Nat) (f : ByteArray → Option ByteArray), s6 = .slice (some ⟨gg, 0, none⟩) k cc ∧ s8 = .int .i64 (i : Nat) ∧ i ≤ n ∧ i ≤ 40 ∧ n - i ≤ g ∧ Hid (S1 w wr i m gg k cc L f))
  case atStart => exact ⟨0, 0, _, _, _, [], _, rfl, rfl, Nat.zero_le _, by omega, by omega, P1⟩
  case round =>
    obtain ⟨i, m, gg, k, cc, L, f, rfl, rfl, hi, hi8, hg, HP⟩ := hrel
    clear P1
    by_cases hlt : i < n ∧ i < 40
    · obtain ⟨hl1, hl2⟩ := hlt
      obtain ⟨x, hx⟩ : ∃ x, A[i]? = some x := ⟨_, List.getElem?_eq_getElem (by rw [HL.out]; omega)⟩
      obtain ⟨b, off, hp, c0⟩ := H.out.at HP.out.low hx
      subst hp
      have h64 := H.out.n64 x (List.mem_of_getElem? hx)
      obtain ⟨z, hz⟩ : ∃ z, z = x % 2 ^ 10 := ⟨_, rfl⟩
      have em : bits .and .u64 (x : Int) 1023 = (z : Int) := by rw [hz]; exact mask_nat x 10 1023 h64 (by omega) rfl
      have hzz : z < 4611686018427387904 := by omega
      have hm3 := HP.out.hm
      have hk3 := HP.out.hL
      have hpl := HP.out.qx.push (by omega) z hzz
      have HU : Hid (∀ W, Vn w.heap.size wr W → Calls Try.prog 11 #[.slice (some ⟨gg, 0, none⟩) k cc, .int .u64 (z : Nat)] W fun e w' => e = .returned (.bool (decide (z ∈ L))) ∧ w' = W) := fun W v => uhas_walk (ul_of (HP.out.row.vn v).out) z
      have sx := HP.out.row.small
      clear hx hz hzz h64
      by_cases hmem : z ∈ L
      · have HM : Hid (z ∈ L) := hmem
        rw [decide_eq_true hmem] at HU hpl
        clear hmem
        go_wp2_with (first
          | (go_at_call 10; (with_reducible refine hpl.mono ?_); rintro e w1 ⟨rfl, t1⟩; have PL : Hid (∃ m' f', S1 w w1 (i + 1) m' gg k cc L f') := HP.out.same hl2 HM.out t1; have hu := HU.out _ t1.vn; clear t1 hpl)
          | (go_at_call 11; (with_reducible refine hu.mono ?_); rintro e w3 ⟨rfl, hw3⟩; subst hw3; clear hu))
        go_roundg (n - (i + 1))
        case measure => omega
        case rel =>
          obtain ⟨m', f', Q⟩ := PL.out
          exact ⟨i + 1, m', gg, k, cc, L, f', rfl, by go_num, by omega, by omega, Nat.le_refl _, Q⟩
      · have HM : Hid (z ∉ L) := hmem
        rw [decide_eq_false hmem] at HU hpl
        clear hmem
        go_wp2_with (first
          | (go_at_call 10; (with_reducible refine hpl.mono ?_); rintro e w1 ⟨rfl, t1⟩; have T1 : Hid (Aft wr w1 w.heap.size (w.heap.size + 1 + 1) w.heap.size m [110] (psh L z) f) := t1; have hu := HU.out _ t1.vn; have O5 : Hid ((w1.alloc (.cells #[.int .u64 (z : Nat)] 31)).ownsRow w.heap.size 31 1 (.slice (some ⟨gg, 0, none⟩) k cc) k (uc L)) := ((HP.out.row.vn t1.vn).kept ((Kept.refl w1).alloc _)).out; have hsz : w.heap.size ≤ (w1.alloc (.cells #[.int .u64 (z : Nat)] 31)).heap.size := (by rw [size_alloc]; have := HP.out.low.size; have := t1.vn.size; omega); have HNC := one_cellU w1 z; clear t1 hpl)
          | (go_at_call 11; (with_reducible refine hu.mono ?_); rintro e w3 ⟨rfl, hw3⟩; subst hw3; clear hu)
          | (at_builtin; refine wpList_append_own _ rfl _ _ 29 rfl w.heap.size 31 i0 _ 1 8 Try.underlying29 hi0 hz0 hz1 hz2 rfl (by decide) (.slice (some ⟨gg, 0, none⟩) k cc) k (uc L) rfl O5.out ⟨w3.heap.size, 0, none⟩ 1 1 [.int .u64 (z : Nat)] rfl rfl HNC (one_u z) (by unfold maxLen; omega) (by omega) hsz ?_
             intro v' w5 o5 g5 n5
             rw [← uc_snoc] at o5
             obtain ⟨g', c', hv', hg'⟩ := some_shape o5 n5
             subst hv'
             have PL : Hid (∃ m' f', S1 w w5 (i + 1) m' g' (k + 1) c' (L ++ [z]) f') := HP.out.more hl2 HM.out T1.out o5 g5
             clear o5 g5 n5))
        go_roundg (n - (i + 1))
        case measure => omega
        case rel =>
          obtain ⟨m', f', Q⟩ := PL.out
          exact ⟨i + 1, m', g', k + 1, c', L ++ [z], f', rfl, by go_num, by omega, by omega, Nat.le_refl _, Q⟩
    · have P2 : Hid (S2 w wr (w.heap.size + 1 + 1) 0 m gg k cc L f) := HP.out.turn hi8
      have hk3 := HP.out.hL
      have sx := HP.out.row.small
      have hlk : Hid (L.length = k) := HP.out.row.len
      clear HP
      have hex : ((i : Int) < (n : Int) ∧ (i : Int) = 40) ∨ ¬ (i : Int) < (n : Int) := by omega
      clear hlt hi hg
      rcases hex with ⟨hin2, h80⟩ | hin2
      all_goals (
        go_wp2
        go_loopg [7, 10] k (fun g s7 s10 wx => ∃ (j a m' : Nat) (f' : ByteArray → Option ByteArray), s7 = .pointer (some ⟨a, 0, none⟩) ∧ s10 = .int .i64 (j : Nat) ∧ j ≤ k ∧ k - j ≤ g ∧ Hid (S2 w wx a j m' gg k cc L f'))
        case atStart => exact ⟨0, _, _, _, rfl, rfl, Nat.zero_le _, by omega, P2⟩
        case round =>
          obtain ⟨j, a, m', f', rfl, rfl, hj, hg2, HS⟩ := hrel
          clear P2 hin2
          by_cases hjk : j < k
          · obtain ⟨x, hx⟩ : ∃ x, L[j]? = some x := ⟨_, List.getElem?_eq_getElem (by rw [hlk.out]; omega)⟩
            have HX : Hid (L[j]? = some x) := hx
            have hjI : (j : Int) < (k : Int) := by omega
            clear hx
            by_cases hkj : (j : Int) = kk
            · have hnw := new_walk 23 (.pointer (some ⟨w.heap.size, 0, none⟩)) ⟨#[110]⟩ wr
              have HS3 : Hid (S2 w (wr.alloc (.cells #[.iface 23 (.pointer (some ⟨w.heap.size, 0, none⟩)), .string ⟨#[110]⟩] 51)) wr.heap.size j m' gg k cc L f') := HS.out.renew
              have hp := HS3.out.pop hjk HX.out
              have hb : ((j : Int) == kk) = true := by simp; exact hkj
              clear hkj
              go_wp2_with (first
                | (go_at_call 6; (with_reducible refine hnw.mono ?_); rintro e w1 ⟨rfl, hw1⟩; rw [hw1]; clear hw1 hnw)
                | (go_at_call 12; (with_reducible refine hp.mono ?_); rintro e w3 ⟨rfl, t3⟩; have QL : Hid (∃ m' f', S2 w w3 wr.heap.size (j + 1) m' gg k cc L f') := HS3.out.next hjk t3; have y0 := ((HS3.out.ul.vn t3.vn).at HX.out); rw [Nat.zero_add] at y0; clear t3 hp))
              go_roundg (k - (j + 1))
              case measure => omega
              case rel =>
                obtain ⟨m2, f2, Q⟩ := QL.out
                exact ⟨j + 1, wr.heap.size, m2, f2, rfl, by go_num, by omega, Nat.le_refl _, Q⟩
            · have hp := HS.out.pop hjk HX.out
              have hb : ((j : Int) == kk) = false := by simp; exact hkj
              clear hkj
              go_wp2_with (first
                | (go_at_call 12; (with_reducible refine hp.mono ?_); rintro e w3 ⟨rfl, t3⟩; have QL : Hid (∃ m' f', S2 w w3 a (j + 1) m' gg k cc L f') := HS.out.next hjk t3; have y0 := ((HS.out.ul.vn t3.vn).at HX.out); rw [Nat.zero_add] at y0; clear t3 hp))
              go_roundg (k - (j + 1))
              case measure => omega
              case rel =>
                obtain ⟨m2, f2, Q⟩ := QL.out
                exact ⟨j + 1, a, m2, f2, rfl, by go_num, by omega, Nat.le_refl _, Q⟩
          · obtain rfl : j = k := by omega
            have hp0 := HS.out.qx.pop (by have := HS.out.hm; omega)
            have hd : L.drop j = [] := List.drop_of_length_le (by rw [hlk.out]; exact Nat.le_refl _)
            have HD : Hid (L.drop j = []) := hd
            have hp : Calls Try.prog 12 #[.pointer (some ⟨a, 0, none⟩)] wr fun e w' => e = .returned (.tuple #[.int .u64 0, .bool false, .int .i64 0]) ∧ Aft wr w' w.heap.size a w.heap.size m' [110] (L.drop j).tail f' := by rw [hd] at hp0 ⊢; exact hp0
            clear hp0 hd
            go_wp2_with (first
              | (go_at_call 12; (with_reducible refine hp.mono ?_); rintro e w3 ⟨rfl, t3⟩; have KE : Hid (Kv w3 w.heap.size w.heap.size 0 (fun _ => none)) := HS.out.empty t3; have K3 : Hid (Kept w w3) := ⟨HS.out.low.trans t3.vn.low⟩; clear t3 hp)
              | (go_at_call 7; (with_reducible refine (awake_walk _).mono ?_); rintro e w5 ⟨rfl, k5⟩; have K5 : Hid (Kept w w5) := K3.out.trans k5; have hl : Calls Try.prog 9 #[.pointer (some ⟨w.heap.size, 0, none⟩)] w5 fun e w' => e = .returned (.int .i64 0) ∧ w' = w5 := len_walk (KE.out.kept k5); clear k5)
              | (go_at_call 9; (with_reducible refine hl.mono ?_); rintro e w6 ⟨rfl, hw6⟩; subst hw6; clear hl))
            go_ret
            exact ⟨rfl, K5.out⟩)
end Go.Proofs.Ytabbfoaojmhajaa.Q
