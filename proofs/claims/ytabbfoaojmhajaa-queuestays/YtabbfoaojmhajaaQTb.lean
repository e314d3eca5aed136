/- The walk of the statement's plays, where it pushes. Conditions: those that each row names. -/
import Derived.Test.YtabbfoaojmhajaaQT
namespace Go.Proofs.Ytabbfoaojmhajaa.Q
open Go.ChangeShapes Go.WideShapes Go.ChangeAt Go.RowKit
open N (Kept bs numL keyL Small Rd On)

set_option maxRecDepth 100000 in
set_option maxHeartbeats 2000000 in
theorem plays_old {w : World} {B a b m bx ox n c : Nat} {nm l : List Nat} {f : ByteArray → Option ByteArray} (h : Qx w B a b m nm l f) (u : Ul w bx ox n c l) (hm : m ≤ 900) (what k : Int) (N0 : Nat) (hN0 : N0 < 18446744073709551616) (o : Bool) (hw : bits .and .i64 what 3 = k) (hk2 : (k == 2) = false) (hk3 : (k == 3) = false) (hi : N0 % 2 ^ 62 ∈ l) :
    Calls Try.prog 8 #[.pointer (some ⟨a, 0, none⟩), .slice (some ⟨bx, ox, none⟩) n c, .agg #[.int .i64 what, .int .u64 (N0 : Nat), .bool o]] w fun e w' => ∃ b' off' n' c', e = .returned (.tuple #[.slice (some ⟨b', off', none⟩) n' c', .bool true]) ∧ Pla w w' B a b m nm f b' off' n' c' (psh l (N0 % 2 ^ 62)) := by
  have kA : Kept w (w.alloc (.cells #[.int .i64 what, .int .u64 (N0 : Nat), .bool o] 33)) := (Kept.refl w).alloc _
  obtain ⟨c0, c1⟩ := act_cells w what N0 o
  have hB := h.s.base
  have em : bits .and .u64 (N0 : Int) 4611686018427387903 = ((N0 % 2 ^ 62 : Nat) : Int) := mask_nat N0 62 4611686018427387903 hN0 (by omega) rfl
  have hz1 : N0 % 2 ^ 62 < 4611686018427387904 := Nat.mod_lt _ (by omega)
  generalize N0 % 2 ^ 62 = z at *
  have hp := (h.kept kA).push hm z hz1
  rw [decide_eq_true hi, show psh l z = l from if_pos hi] at hp
  rw [show psh l z = l from if_pos hi]
  have HU : Hid (∀ W, Vn B w W → Calls Try.prog 11 #[.slice (some ⟨bx, ox, none⟩) n c, .int .u64 (z : Nat)] W fun e w' => e = .returned (.bool true) ∧ w' = W) := fun W k => by have := uhas_walk (u.vn k) z; rwa [decide_eq_true hi] at this
  have U : Hid (Ul w bx ox n c l) := u
  clear h u hi hz1 hN0
  go_enter Try.func8, Try.ntmps8
  go_wp2_with (first
    | (go_at_call 10; (with_reducible refine hp.mono ?_); rintro e w1 ⟨rfl, t1⟩; have T1 : Hid (Aft w w1 B a b m nm l f) := t1.pre kA hB; have hu := HU.out _ T1.out.vn; clear t1 hp)
    | (go_at_call 11; (with_reducible refine hu.mono ?_); rintro e w3 ⟨rfl, hw3⟩; subst hw3; clear hu))
  go_ret2
  exact ⟨bx, ox, n, c, rfl, T1.out, U.out.vn T1.out.vn⟩

theorem u_made (w : World) : (w.alloc (.cells #[] 31)).ownsRow w.heap.size 31 1 (.slice (some ⟨w.heap.size, 0, none⟩) 0 0) 0 [] :=
  World.ownsRow_made (base := w.heap.size) (e := 31) (size := 1) w #[] 0 (Nat.le_refl _) (Nat.zero_le _) rfl
theorem some_shape {w : World} {B e sz n : Nat} {v : Value} {xs : List Value} {g cap : Nat} (o : w.ownsRow B e sz v n xs) {m : Nat} {n' : Nat} (hn : v = .slice none 0 0 ↔ (Value.slice (some ⟨g, 0, none⟩) n' cap = .slice none 0 0 ∧ m = 0)) : ∃ g c, v = .slice (some ⟨g, 0, none⟩) n c ∧ B ≤ g := by
  rcases o.2 with ⟨h1, _⟩ | ⟨g, cap, cur, h1, hB, _⟩
  · have := (hn.1 h1).1
    injection this with this
    cases this
  · exact ⟨g, cap, h1, hB⟩
theorem grown_made {w W W' : World} {v : Value} {B : Nat} (k : Kept w W) (hB : w.heap.size ≤ B) {g n c : Nat} (hv : v = .slice (some ⟨g, 0, none⟩) n c) (hg : B ≤ g) (gr : W.grownBy W' v.ownBlock) : Kept w W' :=
  ⟨k.out.grown gr k.size fun k hk => by subst hv; simp [Value.ownBlock] at hk; omega⟩
theorem one_cellU (w : World) (x : Nat) : ∀ (j : Nat) (u : Value), [Value.int .u64 (x : Nat)][j]? = some u → (w.alloc (.cells #[.int .u64 (x : Nat)] 31)).cell? ((⟨w.heap.size, 0, none⟩ : Addr).add j) = some u := by
  intro j u hj
  rw [Addr.add_lit, Nat.zero_add, cell_of_row _ _ _ _ _ _ (heap_alloc_new w (.cells #[.int .u64 (x : Nat)] 31))]
  simpa using hj
theorem one_u (x : Nat) : ∀ u ∈ [Value.int .u64 (x : Nat)], u.oneCell' = true := by
  intro u hu; simp at hu; subst hu; rfl

set_option maxRecDepth 100000 in
set_option maxHeartbeats 4000000 in
theorem plays_new {w : World} {B a b m bx ox n c : Nat} {nm l : List Nat} {f : ByteArray → Option ByteArray} (h : Qx w B a b m nm l f) (u : Ul w bx ox n c l) (hm : m ≤ 900) (what k : Int) (N0 : Nat) (hN0 : N0 < 18446744073709551616) (o : Bool) (hw : bits .and .i64 what 3 = k) (hk2 : (k == 2) = false) (hk3 : (k == 3) = false) (hi : N0 % 2 ^ 62 ∉ l) :
    Calls Try.prog 8 #[.pointer (some ⟨a, 0, none⟩), .slice (some ⟨bx, ox, none⟩) n c, .agg #[.int .i64 what, .int .u64 (N0 : Nat), .bool o]] w fun e w' => ∃ b' off' n' c', e = .returned (.tuple #[.slice (some ⟨b', off', none⟩) n' c', .bool true]) ∧ Pla w w' B a b m nm f b' off' n' c' (psh l (N0 % 2 ^ 62)) := by
  obtain ⟨i0, hi0, hz0, hz1, hz2⟩ := info_parts info31
  have kA : Kept w (w.alloc (.cells #[.int .i64 what, .int .u64 (N0 : Nat), .bool o] 33)) := (Kept.refl w).alloc _
  obtain ⟨c0, c1⟩ := act_cells w what N0 o
  have hB := h.s.base
  have em : bits .and .u64 (N0 : Int) 4611686018427387903 = ((N0 % 2 ^ 62 : Nat) : Int) := mask_nat N0 62 4611686018427387903 hN0 (by omega) rfl
  have hzz : N0 % 2 ^ 62 < 4611686018427387904 := Nat.mod_lt _ (by omega)
  generalize N0 % 2 ^ 62 = z at *
  have hp := (h.kept kA).push hm z hzz
  rw [decide_eq_false hi, show psh l z = l ++ [z] from if_neg hi] at hp
  rw [show psh l z = l ++ [z] from if_neg hi]
  have HU : Hid (∀ W, Vn B w W → Calls Try.prog 11 #[.slice (some ⟨bx, ox, none⟩) n c, .int .u64 (z : Nat)] W fun e w' => e = .returned (.bool false) ∧ w' = W) := fun W k => by have := uhas_walk (u.vn k) z; rwa [decide_eq_false hi] at this
  have U : Hid (Ul w bx ox n c l) := u
  have hlen := u.len
  have hn3 : n ≤ 300 := by have := h.len; omega
  have HUl : Hid ((uc l).length = n * 1) := by show (uc l).length = n * 1; rw [uc_length, hlen]; omega
  clear h u hi hzz hN0 hlen
  go_enter Try.func8, Try.ntmps8
  go_wp2_with (first
    | (go_at_call 10; (with_reducible refine hp.mono ?_); rintro e w1 ⟨rfl, t1⟩; have T1 : Hid (Aft w w1 B a b m nm (l ++ [z]) f) := t1.pre kA hB; have hu := HU.out _ T1.out.vn; clear t1 hp)
    | (go_at_call 11; (with_reducible refine hu.mono ?_); rintro e w3 ⟨rfl, hw3⟩; subst hw3; have U3 : Hid (Ul w3 bx ox n c l) := U.out.vn T1.out.vn; have kB : Kept w3 (w3.alloc (.cells #[] 31)) := (Kept.refl w3).alloc _; clear hu)
    | (at_builtin; refine wpList_append_own _ rfl _ _ 29 rfl w3.heap.size 31 i0 _ 1 8 Try.underlying29 hi0 hz0 hz1 hz2 rfl (by decide) (.slice (some ⟨w3.heap.size, 0, none⟩) 0 0) 0 [] rfl (u_made w3) ⟨bx, ox, none⟩ n c (uc l) rfl HUl.out (U3.out.kept kB).cells (uc_one l) (by unfold maxLen; omega) (by omega) kB.size ?_
       intro v' w4 o4 g4 n4
       rw [Nat.zero_add, List.nil_append] at o4
       obtain ⟨g, cc, hv', hg⟩ := some_shape o4 n4
       have K4 : Hid (Kept w3 w4) := grown_made kB (Nat.le_refl _) rfl (Nat.le_refl _) g4
       subst hv'
       have O4 : Hid (w4.ownsRow w3.heap.size 31 1 (.slice (some ⟨g, 0, none⟩) n cc) n (uc l)) := o4
       have kC : Kept w4 (w4.alloc (.cells #[.int .u64 (z : Nat)] 31)) := (Kept.refl w4).alloc _
       have O5 : Hid ((w4.alloc (.cells #[.int .u64 (z : Nat)] 31)).ownsRow w3.heap.size 31 1 (.slice (some ⟨g, 0, none⟩) n cc) n (uc l)) := O4.out.kept (kept_grown kC none) (.inr (by simp [Value.ownBlock]))
       have HNC := one_cellU w4 z
       clear o4 g4 n4)
    | (at_builtin; refine wpList_append_own _ rfl _ _ 29 rfl w3.heap.size 31 i0 _ 1 8 Try.underlying29 hi0 hz0 hz1 hz2 rfl (by decide) (.slice (some ⟨g, 0, none⟩) n cc) n (uc l) rfl O5.out ⟨w4.heap.size, 0, none⟩ 1 1 [.int .u64 (z : Nat)] rfl rfl HNC (one_u z) (by unfold maxLen; omega) (by omega) (Nat.le_trans K4.out.size kC.size) ?_
       intro v' w5 o5 g5 n5
       rw [← uc_snoc] at o5
       obtain ⟨g', c', hv', hg'⟩ := some_shape o5 n5
       have K5 : Hid (Kept w3 w5) := grown_made (K4.out.trans kC) (Nat.le_refl _) rfl hg g5
       subst hv'
       have O6 : Hid (w5.ownsRow w3.heap.size 31 1 (.slice (some ⟨g', 0, none⟩) (n + 1) c') (n + 1) (uc (l ++ [z]))) := o5
       clear o5 g5 n5))
  go_ret2
  exact ⟨g', 0, n + 1, c', rfl, T1.out.more K5.out hB, ul_of O6.out⟩
end Go.Proofs.Ytabbfoaojmhajaa.Q
