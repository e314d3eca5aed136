/- The walks of the statements' reference of sets: Of, Or, And, Less, Same. Conditions: 1000 numbers at most, and those that each row names. -/
import Derived.Deep.QuietTactic
import Derived.BigQuiet
import Derived.Test.YtanccfbbaeocaaaDoorLM
namespace Go.Proofs.YtanccfbbaeocaaaDoor.Bt
open Go.RowKit Go.Shelf

theorem take_snoc {zs : List Int} {i : Nat} {x : Int} (h : zs[i]? = some x) : zs.take (i + 1) = zs.take i ++ [x] := by rw [List.take_add_one, h]; rfl
theorem il_begun (w : World) : Il (w.alloc (.cells #[] 3)) (some ⟨w.heap.size, 0, none⟩) 0 0 [] := ⟨(own_begun w).rw⟩

set_option maxRecDepth 100000 in
set_option maxHeartbeats 2000000 in
theorem rof_walk {w : World} {p : Option Addr} {n c : Nat} {zs : List Int} (h : Il w p n c zs) (hn : n ≤ 1000) :
    Calls Tryd.prog 23 #[.slice p n c] w fun e w' => ∃ q m cc, e = .returned (.slice q m cc) ∧ Il w' q m cc (ror [] zs) ∧ Kept w w' := by
  have H : Hid (Il w p n c zs) := h
  have hsm := h.small
  have HL : Hid (zs.length = n) := h.len
  have H0 : Hid (Kept w (w.alloc (.cells #[] 3)) ∧ Il (w.alloc (.cells #[] 3)) (some ⟨w.heap.size, 0, none⟩) 0 0 (ror [] (zs.take 0))) := ⟨(Kept.refl w).alloc _, il_begun w⟩
  clear h
  go_enter Tryd.func23, Tryd.ntmps23
  go_wp2
  go_loopg [3, 4] n (fun g s3 s4 wr => ∃ (q : Option Addr) (m cc i : Nat), s3 = .slice q m cc ∧ s4 = .int .i64 (i : Nat) ∧ i ≤ n ∧ n - i ≤ g ∧ Hid (Kept w wr ∧ Il wr q m cc (ror [] (zs.take i))))
  case atStart => exact ⟨some ⟨w.heap.size, 0, none⟩, 0, 0, 0, rfl, rfl, Nat.zero_le _, by omega, H0⟩
  case round =>
    obtain ⟨q, m, cc, i, rfl, rfl, hi, hg, HI⟩ := hrel
    clear H0
    by_cases hlt : i < n
    · obtain ⟨x, hx⟩ : ∃ x, zs[i]? = some x := ⟨_, List.getElem?_eq_getElem (by rw [HL.out]; omega)⟩
      obtain ⟨b, o, rfl, c00⟩ := H.out.at hx
      have c0 := HI.out.1.cell c00
      have hf := rwith_walk HI.out.2 (by have := HI.out.2.len; have h5 := ror_len (b := zs.take i) (a := []); rw [List.length_take] at h5; simp only [List.length_nil] at h5; omega) x
      rw [← ror_snoc, ← take_snoc hx] at hf
      have HK : Hid (Kept w wr) := HI.out.1
      clear hx c00 HI
      go_wp2_with (go_at_call 21; (with_reducible refine hf.mono ?_); rintro e w1 ⟨q1, m1, c1, rfl, I1, k1⟩; have HN : Hid (Kept w w1 ∧ Il w1 q1 m1 c1 (ror [] (zs.take (i + 1)))) := ⟨HK.out.trans k1, I1⟩; clear I1 k1)
      go_roundg (n - (i + 1))
      case measure => omega
      case rel => exact ⟨q1, m1, c1, i + 1, rfl, by go_num, by omega, Nat.le_refl _, HN⟩
    · obtain rfl : i = n := by omega
      have he : zs.take i = zs := List.take_of_length_le (by rw [HL.out]; exact Nat.le_refl _)
      rw [he] at HI
      have h1 := HI.out.1
      have h2 := HI.out.2
      clear HI he
      go_wp2
      go_ret
      exact ⟨q, m, cc, rfl, h2, h1⟩

set_option maxRecDepth 100000 in
set_option maxHeartbeats 2000000 in
theorem ror_walk {w : World} {p : Option Addr} {n c : Nat} {a : List Int} (ha : Il w p n c a) {p' : Option Addr} {n' c' : Nat} {zs : List Int} (h : Il w p' n' c' zs) (hn : n + n' ≤ 1000) :
    Calls Tryd.prog 11 #[.slice p n c, .slice p' n' c'] w fun e w' => ∃ q m cc, e = .returned (.slice q m cc) ∧ Il w' q m cc (ror a zs) ∧ Kept w w' := by
  have H : Hid (Il w p' n' c' zs) := h
  have hsm := h.small
  have hsa := ha.small
  have HL : Hid (zs.length = n' ∧ a.length = n) := ⟨h.len, ha.len⟩
  have H0 : Hid (Kept w w ∧ Il w p n c (ror a (zs.take 0))) := ⟨Kept.refl w, ha⟩
  clear h ha
  go_enter Tryd.func11, Tryd.ntmps11
  go_wp2
  go_loopg [5, 6] n' (fun g s3 s4 wr => ∃ (q : Option Addr) (m cc i : Nat), s3 = .slice q m cc ∧ s4 = .int .i64 (i : Nat) ∧ i ≤ n' ∧ n' - i ≤ g ∧ Hid (Kept w wr ∧ Il wr q m cc (ror a (zs.take i))))
  case atStart => exact ⟨p, n, c, 0, rfl, rfl, Nat.zero_le _, by omega, H0⟩
  case round =>
    obtain ⟨q, m, cc, i, rfl, rfl, hi, hg, HI⟩ := hrel
    clear H0
    by_cases hlt : i < n'
    · obtain ⟨x, hx⟩ : ∃ x, zs[i]? = some x := ⟨_, List.getElem?_eq_getElem (by rw [HL.out.1]; omega)⟩
      obtain ⟨b, o, rfl, c00⟩ := H.out.at hx
      have c0 := HI.out.1.cell c00
      have hf := rwith_walk HI.out.2 (by have := HI.out.2.len; have h5 := ror_len (b := zs.take i) (a := a); have := HL.out.2; rw [List.length_take] at h5; omega) x
      rw [← ror_snoc, ← take_snoc hx] at hf
      have HK : Hid (Kept w wr) := HI.out.1
      clear hx c00 HI
      go_wp2_with (go_at_call 21; (with_reducible refine hf.mono ?_); rintro e w1 ⟨q1, m1, c1, rfl, I1, k1⟩; have HN : Hid (Kept w w1 ∧ Il w1 q1 m1 c1 (ror a (zs.take (i + 1)))) := ⟨HK.out.trans k1, I1⟩; clear I1 k1)
      go_roundg (n' - (i + 1))
      case measure => omega
      case rel => exact ⟨q1, m1, c1, i + 1, rfl, by go_num, by omega, Nat.le_refl _, HN⟩
    · obtain rfl : i = n' := by omega
      have he : zs.take i = zs := List.take_of_length_le (by rw [HL.out.1]; exact Nat.le_refl _)
      rw [he] at HI
      have h1 := HI.out.1
      have h2 := HI.out.2
      clear HI he
      go_wp2
      go_ret
      exact ⟨q, m, cc, rfl, h2, h1⟩
theorem flt_take {f : Int → Bool} {a : List Int} {i : Nat} {x : Int} (h : a[i]? = some x) : (a.take (i + 1)).filter f = (a.take i).filter f ++ if f x then [x] else [] := by
  rw [take_snoc h, List.filter_append, List.filter_cons]; simp

set_option maxRecDepth 100000 in
set_option maxHeartbeats 2000000 in
theorem rand_walk {w : World} {p : Option Addr} {n c : Nat} {a : List Int} (ha : Il w p n c a) {p' : Option Addr} {n' c' : Nat} {b : List Int} (hb : Il w p' n' c' b) (hn : n ≤ 1000) :
    Calls Tryd.prog 13 #[.slice p n c, .slice p' n' c'] w fun e w' => ∃ q m cc, e = .returned (.slice q m cc) ∧ Il w' q m cc (ran a b) ∧ Kept w w' := by
  obtain ⟨i0, hi0, hz0, hz1, hz2⟩ := info_parts info3
  have H : Hid (Il w p n c a ∧ Il w p' n' c' b) := ⟨ha, hb⟩
  have hsm := hb.small
  have hsa := ha.small
  have HL : Hid (a.length = n) := ha.len
  have H0 : Hid (Kept w (w.alloc (.cells #[] 3)) ∧ Own (w.alloc (.cells #[] 3)) w.heap.size 3 1 (some ⟨w.heap.size, 0, none⟩) 0 0 (ic []) ∧ [] = (a.take 0).filter (fun y => decide (y ∈ b))) := ⟨(Kept.refl w).alloc _, own_begun w, rfl⟩
  clear ha hb
  go_enter Tryd.func13, Tryd.ntmps13
  go_wp2
  go_loopg [5, 6] n (fun g s3 s4 wr => ∃ (q : Option Addr) (m cc i : Nat) (out : List Int), s3 = .slice q m cc ∧ s4 = .int .i64 (i : Nat) ∧ i ≤ n ∧ n - i ≤ g ∧ m ≤ i ∧ Hid (Kept w wr ∧ Own wr w.heap.size 3 1 q m cc (ic out) ∧ out = (a.take i).filter (fun y => decide (y ∈ b))))
  case atStart => exact ⟨some ⟨w.heap.size, 0, none⟩, 0, 0, 0, [], rfl, rfl, Nat.zero_le _, by omega, Nat.le_refl _, H0⟩
  case round =>
    obtain ⟨q, m, cc, i, out, rfl, rfl, hi, hg, hmi, HI⟩ := hrel
    clear H0
    by_cases hlt : i < n
    · obtain ⟨x, hx⟩ : ∃ x, a[i]? = some x := ⟨_, List.getElem?_eq_getElem (by rw [HL.out]; omega)⟩
      obtain ⟨bb, o, rfl, c00⟩ := H.out.1.at hx
      have c0 := HI.out.1.cell c00
      have hh := rhas_walk (H.out.2.kept HI.out.1) x
      have hccl := HI.out.2.1.rw.small
      obtain ⟨OA, hBE⟩ := own_room HI.out.1 HI.out.2.1 x
      have hz4 := int_cells wr x 3
      by_cases hxb : x ∈ b
      · rw [decide_eq_true hxb] at hh
        have HN : Hid (out ++ [x] = (a.take (i + 1)).filter (fun y => decide (y ∈ b))) := by show _ = _; rw [flt_take hx, HI.out.2.2]; simp [hxb]
        clear hx c00 hxb
        go_wp2_with (first | (go_at_call 20; (with_reducible refine hh.mono ?_); rintro e w' ⟨rfl, hw'⟩; rw [hw']; clear hw') | (at_builtin; refine wpList_append_own _ rfl _ _ 22 rfl w.heap.size 3 i0 _ 1 8 Tryd.underlying22 hi0 hz0 hz1 hz2 rfl (by decide) (.slice q m cc) m (ic out) rfl OA.out ⟨wr.heap.size, 0, none⟩ 1 1 [.int .i64 x] rfl rfl hz4 (int_one x) (by unfold maxLen; omega) (by omega) hBE ?_; intro v' w1 o1 g1 _; obtain ⟨q1, c1, rfl⟩ := shape_of o1; obtain ⟨k1, own1⟩ := app_end HI.out.1 HI.out.2.1 o1 g1; have HF1 : Hid (Kept w w1 ∧ Own w1 w.heap.size 3 1 q1 (m + 1) c1 (ic (out ++ [x]))) := ⟨k1, own1⟩; clear o1 g1 k1 own1))
        go_roundg (n - (i + 1))
        case measure => omega
        case rel => exact ⟨q1, m + 1, c1, i + 1, out ++ [x], rfl, by go_num, by omega, Nat.le_refl _, by omega, ⟨HF1.out.1, HF1.out.2, HN.out⟩⟩
      · rw [decide_eq_false hxb] at hh
        have HN : Hid (out = (a.take (i + 1)).filter (fun y => decide (y ∈ b))) := by show _ = _; rw [flt_take hx, HI.out.2.2]; simp [hxb]
        clear hx c00 hxb
        go_wp2_with (go_at_call 20; (with_reducible refine hh.mono ?_); rintro e w' ⟨rfl, hw'⟩; rw [hw']; clear hw')
        go_roundg (n - (i + 1))
        case measure => omega
        case rel => exact ⟨q, m, cc, i + 1, out, rfl, by go_num, by omega, Nat.le_refl _, by omega, ⟨HI.out.1, HI.out.2.1, HN.out⟩⟩
    · obtain rfl : i = n := by omega
      have he : out = ran a b := by have := HI.out.2.2; rw [List.take_of_length_le (by rw [HL.out]; exact Nat.le_refl _)] at this; exact this
      have h1 := HI.out.1
      have h2 := HI.out.2.1
      clear HI
      go_wp2
      go_ret
      exact ⟨q, m, cc, rfl, ⟨by rw [← he]; exact h2.rw⟩, h1⟩

set_option maxRecDepth 100000 in
set_option maxHeartbeats 2000000 in
theorem rless_walk {w : World} {p : Option Addr} {n c : Nat} {a : List Int} (ha : Il w p n c a) {p' : Option Addr} {n' c' : Nat} {b : List Int} (hb : Il w p' n' c' b) (hn : n ≤ 1000) :
    Calls Tryd.prog 7 #[.slice p n c, .slice p' n' c'] w fun e w' => ∃ q m cc, e = .returned (.slice q m cc) ∧ Il w' q m cc (rle a b) ∧ Kept w w' := by
  obtain ⟨i0, hi0, hz0, hz1, hz2⟩ := info_parts info3
  have H : Hid (Il w p n c a ∧ Il w p' n' c' b) := ⟨ha, hb⟩
  have hsm := hb.small
  have hsa := ha.small
  have HL : Hid (a.length = n) := ha.len
  have H0 : Hid (Kept w (w.alloc (.cells #[] 3)) ∧ Own (w.alloc (.cells #[] 3)) w.heap.size 3 1 (some ⟨w.heap.size, 0, none⟩) 0 0 (ic []) ∧ [] = (a.take 0).filter (fun y => !decide (y ∈ b))) := ⟨(Kept.refl w).alloc _, own_begun w, rfl⟩
  clear ha hb
  go_enter Tryd.func7, Tryd.ntmps7
  go_wp2
  go_loopg [5, 6] n (fun g s3 s4 wr => ∃ (q : Option Addr) (m cc i : Nat) (out : List Int), s3 = .slice q m cc ∧ s4 = .int .i64 (i : Nat) ∧ i ≤ n ∧ n - i ≤ g ∧ m ≤ i ∧ Hid (Kept w wr ∧ Own wr w.heap.size 3 1 q m cc (ic out) ∧ out = (a.take i).filter (fun y => !decide (y ∈ b))))
  case atStart => exact ⟨some ⟨w.heap.size, 0, none⟩, 0, 0, 0, [], rfl, rfl, Nat.zero_le _, by omega, Nat.le_refl _, H0⟩
  case round =>
    obtain ⟨q, m, cc, i, out, rfl, rfl, hi, hg, hmi, HI⟩ := hrel
    clear H0
    by_cases hlt : i < n
    · obtain ⟨x, hx⟩ : ∃ x, a[i]? = some x := ⟨_, List.getElem?_eq_getElem (by rw [HL.out]; omega)⟩
      obtain ⟨bb, o, rfl, c00⟩ := H.out.1.at hx
      have c0 := HI.out.1.cell c00
      have hh := rhas_walk (H.out.2.kept HI.out.1) x
      have hccl := HI.out.2.1.rw.small
      obtain ⟨OA, hBE⟩ := own_room HI.out.1 HI.out.2.1 x
      have hz4 := int_cells wr x 3
      by_cases hxb : x ∈ b
      · rw [decide_eq_true hxb] at hh
        have HN : Hid (out = (a.take (i + 1)).filter (fun y => !decide (y ∈ b))) := by show _ = _; rw [flt_take hx, HI.out.2.2]; simp [hxb]
        clear hx c00 hxb
        go_wp2_with (go_at_call 20; (with_reducible refine hh.mono ?_); rintro e w' ⟨rfl, hw'⟩; rw [hw']; clear hw')
        go_roundg (n - (i + 1))
        case measure => omega
        case rel => exact ⟨q, m, cc, i + 1, out, rfl, by go_num, by omega, Nat.le_refl _, by omega, ⟨HI.out.1, HI.out.2.1, HN.out⟩⟩
      · rw [decide_eq_false hxb] at hh
        have HN : Hid (out ++ [x] = (a.take (i + 1)).filter (fun y => !decide (y ∈ b))) := by show _ = _; rw [flt_take hx, HI.out.2.2]; simp [hxb]
        clear hx c00 hxb
        go_wp2_with (first | (go_at_call 20; (with_reducible refine hh.mono ?_); rintro e w' ⟨rfl, hw'⟩; rw [hw']; clear hw') | (at_builtin; refine wpList_append_own _ rfl _ _ 22 rfl w.heap.size 3 i0 _ 1 8 Tryd.underlying22 hi0 hz0 hz1 hz2 rfl (by decide) (.slice q m cc) m (ic out) rfl OA.out ⟨wr.heap.size, 0, none⟩ 1 1 [.int .i64 x] rfl rfl hz4 (int_one x) (by unfold maxLen; omega) (by omega) hBE ?_; intro v' w1 o1 g1 _; obtain ⟨q1, c1, rfl⟩ := shape_of o1; obtain ⟨k1, own1⟩ := app_end HI.out.1 HI.out.2.1 o1 g1; have HF1 : Hid (Kept w w1 ∧ Own w1 w.heap.size 3 1 q1 (m + 1) c1 (ic (out ++ [x]))) := ⟨k1, own1⟩; clear o1 g1 k1 own1))
        go_roundg (n - (i + 1))
        case measure => omega
        case rel => exact ⟨q1, m + 1, c1, i + 1, out ++ [x], rfl, by go_num, by omega, Nat.le_refl _, by omega, ⟨HF1.out.1, HF1.out.2, HN.out⟩⟩
    · obtain rfl : i = n := by omega
      have he : out = rle a b := by have := HI.out.2.2; rw [List.take_of_length_le (by rw [HL.out]; exact Nat.le_refl _)] at this; exact this
      have h1 := HI.out.1
      have h2 := HI.out.2.1
      clear HI
      go_wp2
      go_ret
      exact ⟨q, m, cc, rfl, ⟨by rw [← he]; exact h2.rw⟩, h1⟩

theorem take_eq {a b : List Int} {i : Nat} {x : Int} (h : a.take i = b.take i) (hx : a[i]? = some x) (hy : b[i]? = some x) : a.take (i + 1) = b.take (i + 1) := by
  rw [List.take_add_one, List.take_add_one, h, hx, hy]
set_option maxHeartbeats 2000000 in
theorem rsame_walk {w : World} {ps : Option Addr} {ns cs : Nat} {P : List Int} {pt : Option Addr} {nt ct : Nat} {Q : List Int} (hs : Il w ps ns cs P) (ht : Il w pt nt ct Q) :
    Calls Tryd.prog 17 #[.slice ps ns cs, .slice pt nt ct] w fun e w' => e = .returned (.bool (decide (P = Q))) ∧ Kept w w' := by
  have f1 := hs.small
  have f2 := ht.small
  have HS : Hid (Il w ps ns cs P) := hs
  have HT : Hid (Il w pt nt ct Q) := ht
  have HL : Hid (P.length = ns ∧ Q.length = nt) := ⟨hs.len, ht.len⟩
  clear hs ht
  by_cases hne : ns = nt
  · subst hne
    generalize hd : decide (P = Q) = d
    have HD : Hid (decide (P = Q) = d) := hd
    clear hd
    go_enter Tryd.func17, Tryd.ntmps17
    go_wp2
    go_loopg [5] ns (fun g s13 wr => ∃ i : Nat, s13 = .int .i64 (i : Nat) ∧ i ≤ ns ∧ ns - i ≤ g ∧ Hid (P.take i = Q.take i ∧ Kept w wr))
    case atStart => exact ⟨0, rfl, Nat.zero_le _, by omega, ⟨rfl, Kept.refl w⟩⟩
    case round =>
      obtain ⟨i, rfl, hi, hg, HK⟩ := hrel
      by_cases hlt : i < ns
      · obtain ⟨x, hx⟩ : ∃ x, P[i]? = some x := ⟨_, List.getElem?_eq_getElem (by rw [HL.out.1]; omega)⟩
        obtain ⟨y, hy⟩ : ∃ y, Q[i]? = some y := ⟨_, List.getElem?_eq_getElem (by rw [HL.out.2]; omega)⟩
        obtain ⟨b, o, rfl, c0⟩ := (HS.out.kept HK.out.2).at hx
        obtain ⟨b', o', rfl, e0⟩ := (HT.out.kept HK.out.2).at hy
        have HX : Hid (P[i]? = some x ∧ Q[i]? = some y) := ⟨hx, hy⟩
        clear hx hy
        have HK2 : Hid (Kept w wr) := HK.out.2
        by_cases hxy : x = y
        · subst hxy
          have HT1 : Hid (P.take (i + 1) = Q.take (i + 1)) := take_eq HK.out.1 HX.out.1 HX.out.2
          clear HX HK
          go_upto_region 6 with fail
          go_quiet (fail)
          go_wp2
          go_roundg (ns - (i + 1))
          case measure => omega
          case rel => exact ⟨i + 1, by go_num, by omega, Nat.le_refl _, ⟨HT1.out, HK2.out.drewN _⟩⟩
        · have he : d = false := by
            rw [← HD.out]
            refine decide_eq_false fun e => hxy ?_
            have := HX.out
            rw [e] at this
            have e2 := this.1.symm.trans this.2
            simpa using e2
          have hb : (x == y) = false := by simp; exact hxy
          have hb2 : (x != y) = true := by simp; exact hxy
          clear HX HK
          go_upto_region 6 with fail
          go_quiet (fail)
          go_wp2
          go_ret
          exact ⟨by rw [he]; rfl, HK2.out.drewN _⟩
      · obtain rfl : i = ns := by omega
        have he : d = true := by
          rw [← HD.out]
          have := HK.out.1
          rw [List.take_of_length_le (by rw [HL.out.1]; exact Nat.le_refl _), List.take_of_length_le (by rw [HL.out.2]; exact Nat.le_refl _)] at this
          exact decide_eq_true this
        have hk := HK.out.2
        clear HK
        go_wp2
        go_ret
        exact ⟨by rw [he]; rfl, hk⟩
  · have he : decide (P = Q) = false := decide_eq_false fun e => hne (by rw [← HL.out.1, ← HL.out.2, e])
    rw [he]
    have hne' : ¬ ((ns : Int) = (nt : Int)) := by omega
    go_enter Tryd.func17, Tryd.ntmps17
    go_wp2
    go_ret
    exact ⟨rfl, Kept.refl w⟩
end Go.Proofs.YtanccfbbaeocaaaDoor.Bt
