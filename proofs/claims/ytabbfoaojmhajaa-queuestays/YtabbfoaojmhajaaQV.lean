/- The walk of the law on acts, whole. Conditions: the acts lie in memory as they came in. -/
import Derived.Test.YtabbfoaojmhajaaQU
namespace Go.Proofs.Ytabbfoaojmhajaa.Q
open Go.ChangeShapes Go.WideShapes Go.ChangeAt Go.RowKit
open N (Kept bs numL keyL Small Rd On)

theorem Pw.kept {w W W' : World} {m bx ox nx cx bY oy ny cy : Nat} {X Y : List Nat} {f : ByteArray → Option ByteArray} (h : Pw w W m bx ox nx cx bY oy ny cy X Y f) (k : Kept W W') : Pw w W' m bx ox nx cx bY oy ny cy X Y f :=
  ⟨h.qa.kept k, h.qb.kept k, h.ux.kept k, h.uy.kept k, h.rest, h.vn.more k (Nat.le_refl _)⟩
theorem ul_none (w : World) (b : Nat) : Ul w b 0 0 0 [] := ⟨rfl, Nat.le_refl _, Nat.zero_le _, .inl rfl⟩
def kvO : Obj := .cells #[.slice none 0 0, .slice none 0 0] 26
def quO (b x : Nat) : Obj := .cells #[.iface 23 (.pointer (some ⟨b, 0, none⟩)), .string (bs [x])] 51
theorem pw_new (w : World) : Pw w (((w.alloc kvO).alloc (quO w.heap.size 97)).alloc (quO w.heap.size 98)) 0 (w.heap.size + 1 + 1 + 1) 0 0 0 (w.heap.size + 1 + 1 + 1 + 1) 0 0 0 [] [] (fun _ => none) := by
  have k1 : Kept w (w.alloc kvO) := (Kept.refl w).alloc _
  have k2 : Kept w ((w.alloc kvO).alloc (quO w.heap.size 97)) := k1.alloc _
  have qa := qx_new (kv_new w) (by omega) k1.size (Qf.nil (small1 (x := 97) (by omega))) (by simp)
  have qb := qx_new ((kv_new w).kept ((Kept.refl (w.alloc kvO)).alloc (quO w.heap.size 97))) (by omega) k2.size (Qf.nil (small1 (x := 98) (by omega))) (by simp)
  rw [size_alloc] at qa
  rw [size_alloc] at qb
  rw [show (w.alloc kvO).heap.size = w.heap.size + 1 from size_alloc w kvO] at qb
  exact ⟨qa.kept ((Kept.refl _).alloc _), qb, ul_none _ _, ul_none _ _, (fun k hk => absurd rfl hk), Vn.of (k2.alloc _) (Nat.le_refl _)⟩
/-- How far the acts are. -/
structure Pi (w W : World) (i m bx ox nx cx bY oy ny cy : Nat) (X Y : List Nat) (f : ByteArray → Option ByteArray) : Prop where
  pw : Pw w W m bx ox nx cx bY oy ny cy X Y f
  hm : m ≤ 3 * i
  hx : X.length ≤ i
  hy : Y.length ≤ i

set_option maxRecDepth 100000 in
set_option maxHeartbeats 4000000 in
theorem plays_law {w : World} {p : Option Addr} {n c : Nat} {A : List Ac} (h : Al w p n c A) : Calls Try.prog 3 #[.slice p n c] w fun e w' => e = .returned (.bool true) ∧ Kept w w' := by
  have H : Hid (Al w p n c A) := h
  have HL : Hid (A.length = n) := h.len
  have hnc := h.le
  have hcm : c ≤ 9223372036854775807 := by have := h.cap; unfold maxLen at this; omega
  have P0 : Hid (Pw w (((w.alloc kvO).alloc (quO w.heap.size 97)).alloc (quO w.heap.size 98)) 0 (w.heap.size + 1 + 1 + 1) 0 0 0 (w.heap.size + 1 + 1 + 1 + 1) 0 0 0 [] [] (fun _ => none)) := pw_new w
  have hn1 := new_walk 23 (.pointer (some ⟨w.heap.size, 0, none⟩)) ⟨#[97]⟩ (w.alloc (.cells #[.slice none 0 0, .slice none 0 0] 26))
  rw [size_alloc] at hn1
  have hn2 := new_walk 23 (.pointer (some ⟨w.heap.size, 0, none⟩)) ⟨#[98]⟩ ((w.alloc (.cells #[.slice none 0 0, .slice none 0 0] 26)).alloc (.cells #[.iface 23 (.pointer (some ⟨w.heap.size, 0, none⟩)), .string ⟨#[97]⟩] 51))
  rw [size_alloc, size_alloc] at hn2
  clear h
  go_enter Try.func3, Try.ntmps3
  go_wp2_with (first
    | (go_at_call 6; (with_reducible refine hn1.mono ?_); rintro e w1 ⟨rfl, hw1⟩; rw [hw1]; clear hw1 hn1)
    | (go_at_call 6; (with_reducible refine hn2.mono ?_); rintro e w2 ⟨rfl, hw2⟩; have P2 : Hid (Pw w w2 0 (w.heap.size + 1 + 1 + 1) 0 0 0 (w.heap.size + 1 + 1 + 1 + 1) 0 0 0 [] [] (fun _ => none)) := (by (show Pw w w2 _ _ _ _ _ _ _ _ _ _ _ _); rw [hw2]; exact P0.out); have sz2 : w2.heap.size = w.heap.size + 1 + 1 + 1 := (by rw [hw2, size_alloc, size_alloc, size_alloc]); clear hw2 hn2)
    | (go_at_call 7; (with_reducible refine (awake_walk _).mono ?_); rintro e w5 ⟨rfl, k5⟩; have P5 : Hid (Pi w w5 0 0 (w.heap.size + 1 + 1 + 1) 0 0 0 (w.heap.size + 1 + 1 + 1 + 1) 0 0 0 [] [] (fun _ => none)) := (by (have q := P2.out.kept ((((Kept.refl w2).alloc _).alloc _).trans k5)); exact ⟨⟨q.qa, q.qb, ul_none _ _, ul_none _ _, q.rest, q.vn⟩, Nat.le_refl _, Nat.le_refl _, Nat.le_refl _⟩); clear k5))
  clear P0 P2 sz2
  go_loopg [6, 7, 8] n (fun g s6 s7 s8 wr => ∃ (i m bx ox nx cx bY oy ny cy : Nat) (X Y : List Nat) (f : ByteArray → Option ByteArray), s6 = .slice (some ⟨bx, ox, none⟩) nx cx ∧ s7 = .slice (some ⟨bY, oy, none⟩) ny cy ∧ s8 = .int .i64 (i : Nat) ∧ i ≤ n ∧ i ≤ 80 ∧ n - i ≤ g ∧ Hid (Pi w wr i m bx ox nx cx bY oy ny cy X Y f))
  case atStart => exact ⟨0, 0, _, _, _, _, _, _, _, _, [], [], _, rfl, rfl, rfl, Nat.zero_le _, by omega, by omega, P5⟩
  case round =>
    obtain ⟨i, m, bx, ox, nx, cx, bY, oy, ny, cy, X, Y, f, rfl, rfl, rfl, hi, hi8, hg, HP⟩ := hrel
    clear P5
    by_cases hlt : i < n ∧ i < 80
    · obtain ⟨hl1, hl2⟩ := hlt
      obtain ⟨x, hx⟩ : ∃ x, A[i]? = some x := ⟨_, List.getElem?_eq_getElem (by rw [HL.out]; omega)⟩
      obtain ⟨b, off, hp, c0, c1, c2⟩ := H.out.at HP.out.pw.vn.low hx
      subst hp
      have h64 := H.out.n64 x (List.mem_of_getElem? hx)
      have hm9 : m ≤ 900 := by have := HP.out.hm; omega
      have hX := HP.out.hx
      have hY := HP.out.hy
      obtain ⟨what, N0, o⟩ := x
      dsimp only at c0 c1 c2 h64
      clear hx
      cases o with
      | true =>
        have hpl := plays_walk HP.out.pw.qb HP.out.pw.uy hm9 what N0 h64 true
        have lx := HP.out.pw.ux.len
        have sx := HP.out.pw.ux.small
        go_upto_region 13 with (go_at_call 8; (with_reducible refine hpl.mono ?_); rintro e w1 ⟨b', o', n', c', l', rfl, pl, hl'⟩; have PL : Hid (∃ m' f', Pi w w1 (i + 1) m' bx ox nx cx b' o' n' c' X l' f') := (by (obtain ⟨m', f', q1, q2⟩ := HP.out.pw.second hm9 (by omega) pl); exact ⟨m', f', q2, (by (have := HP.out.hm; omega)), (by omega), (by omega)⟩); have ln := pl.ul.len; have sn := pl.ul.small; clear pl hpl)
        obtain ⟨m', f', Q⟩ := PL.out
        have HQ : Hid (Pi w w1 (i + 1) m' bx ox nx cx b' o' n' c' X l' f') := Q
        clear PL Q c0 c1 c2
        by_cases hz : nx = 0 ∧ n' = 0
        · obtain ⟨rfl, rfl⟩ := hz
          have hX0 : X = [] := List.length_eq_zero_iff.1 lx
          have hl0 : l' = [] := List.length_eq_zero_iff.1 ln
          have hk := len_walk HQ.out.pw.qa.s.kv
          have hm0 : m' = 0 := (by (have q := HQ.out.pw); rw [hX0, hl0] at q; exact q.none)
          rw [hm0] at hk
          have hk : Calls Try.prog 9 #[.pointer (some ⟨w.heap.size, 0, none⟩)] w1 fun e w' => e = .returned (.int .i64 0) ∧ w' = w1 := hk
          clear lx ln hX0 hl0 hm0
          go_wp2_with (go_at_call 9; (with_reducible refine hk.mono ?_); rintro e w3 ⟨rfl, hw3⟩; subst hw3; clear hk)
          go_roundg (n - (i + 1))
          case measure => omega
          case rel => exact ⟨i + 1, m', bx, ox, 0, cx, b', o', 0, c', X, l', f', rfl, rfl, by go_num, by omega, by omega, Nat.le_refl _, HQ⟩
        · obtain ⟨s, hs⟩ : ∃ s, s = nx + n' := ⟨_, rfl⟩
          have u1 : IntKind.i64.wrap ((nx : Int) + (n' : Int)) = (s : Int) := by rw [IntKind.wrap_i64]; omega
          have u2 : ((s : Int) == 0) = false := by simp; omega
          clear hz hs lx ln
          go_wp2
          go_roundg (n - (i + 1))
          case measure => omega
          case rel => exact ⟨i + 1, m', bx, ox, nx, cx, b', o', n', c', X, l', f', rfl, rfl, by go_num, by omega, by omega, Nat.le_refl _, HQ⟩
      | false =>
        have hpl := plays_walk HP.out.pw.qa HP.out.pw.ux hm9 what N0 h64 false
        have lx := HP.out.pw.uy.len
        have sx := HP.out.pw.uy.small
        go_upto_region 13 with (go_at_call 8; (with_reducible refine hpl.mono ?_); rintro e w1 ⟨b', o', n', c', l', rfl, pl, hl'⟩; have PL : Hid (∃ m' f', Pi w w1 (i + 1) m' b' o' n' c' bY oy ny cy l' Y f') := (by (obtain ⟨m', f', q1, q2⟩ := HP.out.pw.first hm9 (by omega) pl); exact ⟨m', f', q2, (by (have := HP.out.hm; omega)), (by omega), (by omega)⟩); have ln := pl.ul.len; have sn := pl.ul.small; clear pl hpl)
        obtain ⟨m', f', Q⟩ := PL.out
        have HQ : Hid (Pi w w1 (i + 1) m' b' o' n' c' bY oy ny cy l' Y f') := Q
        clear PL Q c0 c1 c2
        by_cases hz : ny = 0 ∧ n' = 0
        · obtain ⟨rfl, rfl⟩ := hz
          have hX0 : Y = [] := List.length_eq_zero_iff.1 lx
          have hl0 : l' = [] := List.length_eq_zero_iff.1 ln
          have hk := len_walk HQ.out.pw.qa.s.kv
          have hm0 : m' = 0 := (by (have q := HQ.out.pw); rw [hX0, hl0] at q; exact q.none)
          rw [hm0] at hk
          have hk : Calls Try.prog 9 #[.pointer (some ⟨w.heap.size, 0, none⟩)] w1 fun e w' => e = .returned (.int .i64 0) ∧ w' = w1 := hk
          clear lx ln hX0 hl0 hm0
          go_wp2_with (go_at_call 9; (with_reducible refine hk.mono ?_); rintro e w3 ⟨rfl, hw3⟩; subst hw3; clear hk)
          go_roundg (n - (i + 1))
          case measure => omega
          case rel => exact ⟨i + 1, m', b', o', 0, c', bY, oy, 0, cy, l', Y, f', rfl, rfl, by go_num, by omega, by omega, Nat.le_refl _, HQ⟩
        · obtain ⟨s, hs⟩ : ∃ s, s = n' + ny := ⟨_, rfl⟩
          have u1 : IntKind.i64.wrap ((n' : Int) + (ny : Int)) = (s : Int) := by rw [IntKind.wrap_i64]; omega
          have u2 : ((s : Int) == 0) = false := by simp; omega
          clear hz hs lx ln
          go_wp2
          go_roundg (n - (i + 1))
          case measure => omega
          case rel => exact ⟨i + 1, m', b', o', n', c', bY, oy, ny, cy, l', Y, f', rfl, rfl, by go_num, by omega, by omega, Nat.le_refl _, HQ⟩
    · have K : Hid (Kept w wr) := HP.out.pw.vn.kept
      by_cases hin : i < n
      · have h80 : (i : Int) = 80 := by omega
        have hin2 : (i : Int) < (n : Int) := by omega
        go_wp2
        go_ret
        exact ⟨rfl, K.out⟩
      · obtain rfl : i = n := by omega
        clear hin hlt
        go_wp2
        go_ret
        exact ⟨rfl, K.out⟩
end Go.Proofs.Ytabbfoaojmhajaa.Q
