/- The walks of the statements' reference of sets: Has, With, Of, Or, And, Less, Same. Conditions: 1000 numbers at most, and those that each row names. -/
import Derived.Deep.CutRange
import Derived.Lib.SmallJoins
import Derived.Test.YtanccfbbaeocaaaLAc
import Derived.Test.YtanccfbbaeocaaaLK
namespace Go.Proofs.Ytanccfbbaeocaaa.Bt
open Go.RowKit Go.Shelf

set_option maxHeartbeats 1000000 in
theorem rhas_walk {w : World} {p : Option Addr} {n c : Nat} {zs : List Int} (h : Il w p n c zs) (z : Int) :
    Calls Try.prog 41 #[.slice p n c, .int .i64 z] w fun e w' => e = .returned (.bool (decide (z ∈ zs))) ∧ w' = w := by
  have hsm := h.small
  have H : Hid (Il w p n c zs) := h
  have HL : Hid (zs.length = n) := h.len
  clear h
  generalize hd : decide (z ∈ zs) = d
  have HD : Hid (decide (z ∈ zs) = d) := hd
  clear hd
  go_enter Try.func41, Try.ntmps41
  go_wp2
  go_loopg [5] n (fun g s5 wr => ∃ i : Nat, s5 = .int .i64 (i : Nat) ∧ i ≤ n ∧ n - i ≤ g ∧ wr = w ∧ Hid (¬ z ∈ zs.take i))
  case atStart => exact ⟨0, rfl, Nat.zero_le _, by omega, rfl, (by show ¬ z ∈ zs.take 0; simp)⟩
  case round =>
    obtain ⟨i, rfl, hi, hg, hwr, HK⟩ := hrel
    subst hwr
    by_cases hlt : i < n
    · obtain ⟨x, hx⟩ : ∃ x, zs[i]? = some x := ⟨_, List.getElem?_eq_getElem (by rw [HL.out]; omega)⟩
      obtain ⟨b, o, rfl, c0⟩ := H.out.at hx
      by_cases hxz : x = z
      · have he : d = true := by rw [← HD.out]; exact decide_eq_true (by rw [← hxz]; exact List.mem_of_getElem? hx)
        subst hxz
        clear hx HK
        go_wp2
        go_ret
        exact ⟨by rw [he]; rfl, rfl⟩
      · have HN : Hid (¬ z ∈ zs.take (i + 1)) := by
          show ¬ z ∈ zs.take (i + 1)
          rw [List.take_add_one, hx]
          simp
          exact ⟨HK.out, fun e => hxz e.symm⟩
        have hb : ((x : Int) == z) = false := by simp; exact hxz
        clear hx HK
        go_wp2
        go_roundg (n - (i + 1))
        case measure => omega
        case rel => exact ⟨i + 1, by go_num, by omega, Nat.le_refl _, rfl, HN⟩
    · obtain rfl : i = n := by omega
      have he : d = false := by
        rw [← HD.out]
        have := HK.out
        rw [List.take_of_length_le (by rw [HL.out]; exact Nat.le_refl _)] at this
        exact decide_eq_false this
      clear HK
      go_wp2
      go_ret
      exact ⟨by rw [he]; rfl, rfl⟩
/-- A number more at the end of a row of one's own. -/
theorem app_end {w W w1 : World} {q q1 : Option Addr} {m c c1 : Nat} {out : List Int} {z : Int} {tmp : Obj} (kw : Kept w W) (own : Own W w.heap.size 3 1 q m c (ic out))
    (o1 : w1.ownsRow w.heap.size 3 1 (.slice q1 (m + 1) c1) (m + 1) (ic out ++ [.int .i64 z])) (g1 : (W.alloc tmp).grownBy w1 (Value.slice q m c).ownBlock) :
    Kept w w1 ∧ Own w1 w.heap.size 3 1 q1 (m + 1) c1 (ic (out ++ [z])) := by
  have k0 : Kept W (W.alloc tmp) := (Kept.refl W).alloc tmp
  refine ⟨grown_kept w (kw.trans k0) g1 (Nat.le_refl _) (fun k hk => (own_blk (own.kept k0) k hk).1), ⟨?_⟩⟩
  rw [ic_snoc]; exact o1
theorem own_room {w W : World} {q : Option Addr} {m c : Nat} {cs : List Value} (kw : Kept w W) (own : Own W w.heap.size 3 1 q m c cs) (z : Int) :
    Own (W.alloc (.cells #[.int .i64 z] 3)) w.heap.size 3 1 q m c cs ∧ w.heap.size ≤ (W.alloc (.cells #[.int .i64 z] 3)).heap.size :=
  ⟨own.kept ((Kept.refl W).alloc _), (kw.alloc _).size⟩
theorem own_begun (w : World) : Own (w.alloc (.cells #[] 3)) w.heap.size 3 1 (some ⟨w.heap.size, 0, none⟩) 0 0 (ic []) := ⟨World.ownsRow_made w #[] 0 (Nat.le_refl _) (Nat.zero_le _) (by simp)⟩
theorem ins_end (z : Int) : ins z [] = [z] := rfl
theorem ins_lt {z x : Int} {r : List Int} (h : z < x) : ins z (x :: r) = z :: x :: r := by rw [ins, if_pos h]
theorem ins_ge {z x : Int} {r : List Int} (h : ¬ z < x) : ins z (x :: r) = x :: ins z r := by rw [ins, if_neg h]
theorem drop_cons {zs : List Int} {i : Nat} {x : Int} (h : zs[i]? = some x) : zs.drop i = x :: zs.drop (i + 1) := by
  obtain ⟨hi, rfl⟩ := List.getElem?_eq_some_iff.1 h
  rw [List.drop_eq_getElem_cons hi]

/-- How far With is. -/
structure Wst (zs : List Int) (z : Int) (dn : Bool) (i : Nat) (out : List Int) : Prop where
  on : dn = true → out ++ zs.drop i = ins z zs
  off : dn = false → out ++ ins z (zs.drop i) = ins z zs
set_option maxRecDepth 100000 in
set_option maxHeartbeats 4000000 in
theorem rwith_new {w : World} {p : Option Addr} {n c : Nat} {zs : List Int} (h : Il w p n c zs) (hn : n ≤ 1000) (z : Int) (hz : 0 ≤ z) (hz2 : z < 1048576) (hm : ¬ z ∈ zs) :
    Calls Try.prog 26 #[.slice p n c, .int .i64 z] w fun e w' => ∃ q m cc, e = .returned (.slice q m cc) ∧ Il w' q m cc (ins z zs) ∧ Kept w w' := by
  obtain ⟨i0, hi0, hz0, hz1, hz2'⟩ := info_parts info3
  have hz2 : z < 1048576 := hz2
  have hsm := h.small
  have H : Hid (Il w p n c zs) := h
  have HL : Hid (zs.length = n) := h.len
  have hh := rhas_walk h z
  rw [decide_eq_false hm] at hh
  have H0 : Hid (Kept w (w.alloc (.cells #[] 3)) ∧ Own (w.alloc (.cells #[] 3)) w.heap.size 3 1 (some ⟨w.heap.size, 0, none⟩) 0 0 (ic []) ∧ Wst zs z false 0 []) := ⟨(Kept.refl w).alloc _, own_begun w, ⟨fun e => (by cases e), fun _ => (by simp)⟩⟩
  have hz2 := hz2'
  clear h hm
  go_enter Try.func26, Try.ntmps26
  go_wp2_with (go_at_call 41; refine hh.mono ?_; rintro e w' ⟨rfl, hw'⟩; rw [hw']; clear hw')
  go_loopg [5, 6, 7] n (fun g s5 s6 s7 wr => ∃ (q : Option Addr) (m cc : Nat) (dn : Bool) (i : Nat) (out : List Int), s5 = .slice q m cc ∧ s6 = .bool dn ∧ s7 = .int .i64 (i : Nat) ∧ i ≤ n ∧ n - i ≤ g ∧ m ≤ 2 * i + 1 ∧ Hid (Kept w wr ∧ Own wr w.heap.size 3 1 q m cc (ic out) ∧ Wst zs z dn i out))
  case atStart => exact ⟨some ⟨w.heap.size, 0, none⟩, 0, 0, false, 0, [], rfl, rfl, rfl, Nat.zero_le _, by omega, by omega, H0⟩
  case round =>
    obtain ⟨q, m, cc, dn, i, out, rfl, rfl, rfl, hi, hg, hmi, HI⟩ := hrel
    clear H0
    by_cases hlt : i < n
    · obtain ⟨x, hx⟩ : ∃ x, zs[i]? = some x := ⟨_, List.getElem?_eq_getElem (by rw [HL.out]; omega)⟩
      obtain ⟨b, o, rfl, c00⟩ := H.out.at hx
      have c0 := HI.out.1.cell c00
      have HKc : Hid (∀ W, Kept w W → W.cell? ⟨b, o + i, none⟩ = some (.int .i64 x)) := fun W k => k.cell c00
      have HDr : Hid (zs.drop i = x :: zs.drop (i + 1)) := drop_cons hx
      clear hx c00
      cases dn with
      | true =>
        have HN : Hid (Wst zs z true (i + 1) (out ++ [x])) := ⟨fun e => (by have := HI.out.2.2.on e; rw [HDr.out] at this; rw [List.append_assoc]; exact this), fun e => (by cases e)⟩
        obtain ⟨OA, hBE⟩ := own_room HI.out.1 HI.out.2.1 x
        have hz4 := int_cells wr x 3
        have hccl := HI.out.2.1.rw.small
        go_wp2_with (at_builtin; refine wpList_append_own _ rfl _ _ 22 rfl w.heap.size 3 i0 _ 1 8 Try.underlying22 hi0 hz0 hz1 hz2 rfl (by decide) (.slice q m cc) m (ic out) rfl OA.out ⟨wr.heap.size, 0, none⟩ 1 1 [.int .i64 x] rfl rfl hz4 (int_one x) (by unfold maxLen; omega) (by omega) hBE ?_; intro v' w1 o1 g1 _; obtain ⟨q1, c1, rfl⟩ := shape_of o1; obtain ⟨k1, own1⟩ := app_end HI.out.1 HI.out.2.1 o1 g1; have HF1 : Hid (Kept w w1 ∧ Own w1 w.heap.size 3 1 q1 (m + 1) c1 (ic (out ++ [x]))) := ⟨k1, own1⟩; clear o1 g1 k1 own1)
        go_roundg (n - (i + 1))
        case measure => omega
        case rel => exact ⟨q1, m + 1, c1, true, i + 1, out ++ [x], rfl, rfl, by go_num, by omega, Nat.le_refl _, by omega, ⟨HF1.out.1, HF1.out.2, HN.out⟩⟩
      | false =>
        by_cases hzx : z < x
        · have HN : Hid (Wst zs z true (i + 1) (out ++ [z] ++ [x])) := ⟨fun _ => (by have := HI.out.2.2.off rfl; rw [HDr.out, ins_lt hzx] at this; rw [List.append_assoc, List.append_assoc]; exact this), fun e => (by cases e)⟩
          obtain ⟨OA, hBE⟩ := own_room HI.out.1 HI.out.2.1 z
          have hz4 := int_cells wr z 3
          have hccl := HI.out.2.1.rw.small
          go_wp2_with (first | (at_builtin; refine wpList_append_own _ rfl _ _ 22 rfl w.heap.size 3 i0 _ 1 8 Try.underlying22 hi0 hz0 hz1 hz2 rfl (by decide) (.slice q m cc) m (ic out) rfl OA.out ⟨wr.heap.size, 0, none⟩ 1 1 [.int .i64 z] rfl rfl hz4 (int_one z) (by unfold maxLen; omega) (by omega) hBE ?_; intro v' w1 o1 g1 _; obtain ⟨q1, c1, rfl⟩ := shape_of o1; obtain ⟨k1, own1⟩ := app_end HI.out.1 HI.out.2.1 o1 g1; have HF1 : Hid (Kept w w1 ∧ Own w1 w.heap.size 3 1 q1 (m + 1) c1 (ic (out ++ [z]))) := ⟨k1, own1⟩; have c0' := (by exact (HKc.out _ k1)); obtain ⟨OA2, hBE2⟩ := own_room k1 own1 x; have hz42 := int_cells w1 x 3; clear o1 g1 k1 own1 OA hz4 hBE) | (at_builtin; refine wpList_append_own _ rfl _ _ 22 rfl w.heap.size 3 i0 _ 1 8 Try.underlying22 hi0 hz0 hz1 hz2 rfl (by decide) (.slice q1 (m + 1) c1) (m + 1) (ic (out ++ [z])) rfl OA2.out ⟨w1.heap.size, 0, none⟩ 1 1 [.int .i64 x] rfl rfl hz42 (int_one x) (by unfold maxLen; omega) (by omega) hBE2 ?_; intro v' w2 o2 g2 _; obtain ⟨q2, c2, rfl⟩ := shape_of o2; obtain ⟨k2, own2⟩ := app_end HF1.out.1 HF1.out.2 o2 g2; have HF2 : Hid (Kept w w2 ∧ Own w2 w.heap.size 3 1 q2 (m + 1 + 1) c2 (ic (out ++ [z] ++ [x]))) := ⟨k2, own2⟩; clear o2 g2 k2 own2))
          go_roundg (n - (i + 1))
          case measure => omega
          case rel => exact ⟨q2, m + 1 + 1, c2, true, i + 1, out ++ [z] ++ [x], rfl, rfl, by go_num, by omega, Nat.le_refl _, by omega, ⟨HF2.out.1, HF2.out.2, HN.out⟩⟩
        · have HN : Hid (Wst zs z false (i + 1) (out ++ [x])) := ⟨fun e => (by cases e), fun _ => (by have := HI.out.2.2.off rfl; rw [HDr.out, ins_ge hzx] at this; rw [List.append_assoc]; exact this)⟩
          obtain ⟨OA, hBE⟩ := own_room HI.out.1 HI.out.2.1 x
          have hz4 := int_cells wr x 3
          have hccl := HI.out.2.1.rw.small
          go_wp2_with (at_builtin; refine wpList_append_own _ rfl _ _ 22 rfl w.heap.size 3 i0 _ 1 8 Try.underlying22 hi0 hz0 hz1 hz2 rfl (by decide) (.slice q m cc) m (ic out) rfl OA.out ⟨wr.heap.size, 0, none⟩ 1 1 [.int .i64 x] rfl rfl hz4 (int_one x) (by unfold maxLen; omega) (by omega) hBE ?_; intro v' w1 o1 g1 _; obtain ⟨q1, c1, rfl⟩ := shape_of o1; obtain ⟨k1, own1⟩ := app_end HI.out.1 HI.out.2.1 o1 g1; have HF1 : Hid (Kept w w1 ∧ Own w1 w.heap.size 3 1 q1 (m + 1) c1 (ic (out ++ [x]))) := ⟨k1, own1⟩; clear o1 g1 k1 own1)
          go_roundg (n - (i + 1))
          case measure => omega
          case rel => exact ⟨q1, m + 1, c1, false, i + 1, out ++ [x], rfl, rfl, by go_num, by omega, Nat.le_refl _, by omega, ⟨HF1.out.1, HF1.out.2, HN.out⟩⟩
    · obtain rfl : i = n := by omega
      have hdn : zs.drop i = [] := List.drop_of_length_le (by rw [HL.out]; exact Nat.le_refl _)
      cases dn with
      | true =>
        have he : out = ins z zs := by have := HI.out.2.2.on rfl; rwa [hdn, List.append_nil] at this
        have hk := HI.out.1
        have ho := HI.out.2.1
        clear HI hdn
        go_wp2
        go_ret
        exact ⟨q, m, cc, rfl, ⟨by rw [← he]; exact ho.rw⟩, hk⟩
      | false =>
        have he : out ++ [z] = ins z zs := by have := HI.out.2.2.off rfl; rwa [hdn, ins_end] at this
        have HEq : Hid (out ++ [z] = ins z zs) := he
        obtain ⟨OA, hBE⟩ := own_room HI.out.1 HI.out.2.1 z
        have hz4 := int_cells wr z 3
        have hccl := HI.out.2.1.rw.small
        clear hdn he
        go_wp2_with (at_builtin; refine wpList_append_own _ rfl _ _ 22 rfl w.heap.size 3 i0 _ 1 8 Try.underlying22 hi0 hz0 hz1 hz2 rfl (by decide) (.slice q m cc) m (ic out) rfl OA.out ⟨wr.heap.size, 0, none⟩ 1 1 [.int .i64 z] rfl rfl hz4 (int_one z) (by unfold maxLen; omega) (by omega) hBE ?_; intro v' w1 o1 g1 _; obtain ⟨q1, c1, rfl⟩ := shape_of o1; obtain ⟨k1, own1⟩ := app_end HI.out.1 HI.out.2.1 o1 g1; have HF1 : Hid (Kept w w1 ∧ Own w1 w.heap.size 3 1 q1 (m + 1) c1 (ic (out ++ [z]))) := ⟨k1, own1⟩; clear o1 g1 k1 own1)
        go_ret
        exact ⟨q1, m + 1, c1, rfl, ⟨by rw [← HEq.out]; exact HF1.out.2.rw⟩, HF1.out.1⟩

set_option maxHeartbeats 1000000 in
theorem rwith_walk {w : World} {p : Option Addr} {n c : Nat} {zs : List Int} (h : Il w p n c zs) (hn : n ≤ 1000) (z : Int) :
    Calls Try.prog 26 #[.slice p n c, .int .i64 z] w fun e w' => ∃ q m cc, e = .returned (.slice q m cc) ∧ Il w' q m cc (rwt zs z) ∧ Kept w w' := by
  by_cases hr : 0 ≤ z ∧ z < 1048576 ∧ ¬ z ∈ zs
  · rw [show rwt zs z = ins z zs from if_pos hr]
    exact rwith_new h hn z hr.1 hr.2.1 hr.2.2
  · rw [show rwt zs z = zs from if_neg hr]
    have key : Calls Try.prog 26 #[.slice p n c, .int .i64 z] w fun e w' => e = .returned (.slice p n c) ∧ w' = w := by
      have hh := rhas_walk h z
      by_cases h1 : z < 0
      · clear h hh hr
        go_enter Try.func26, Try.ntmps26
        go_wp2
        go_ret
        exact ⟨rfl, rfl⟩
      · by_cases h2 : z < 1048576
        · have h3 : z ∈ zs := Classical.byContradiction fun h3 => hr ⟨by omega, h2, h3⟩
          rw [decide_eq_true h3] at hh
          clear h hr h3
          go_enter Try.func26, Try.ntmps26
          go_wp2_with (go_at_call 41; refine hh.mono ?_; rintro e w' ⟨rfl, hw'⟩; rw [hw']; clear hw')
          go_ret
          exact ⟨rfl, rfl⟩
        · clear h hh hr
          go_enter Try.func26, Try.ntmps26
          go_wp2
          go_ret
          exact ⟨rfl, rfl⟩
    refine key.mono ?_
    rintro e w' ⟨rfl, rfl⟩
    exact ⟨p, n, c, rfl, h, Kept.refl _⟩
end Go.Proofs.Ytanccfbbaeocaaa.Bt
