/- The walks of Has and Same. Conditions: those that each row names. -/
import Derived.Deep.CutRange
import Derived.Laws.StructEq
import Derived.Test.YtanccfbbaeocaaaLI
namespace Go.Proofs.Ytanccfbbaeocaaa.Bt
open Go.ChangeShapes Go.WideShapes Go.ChangeAt Go.RowKit

theorem bit_eq (x j : Nat) (hx : x < 18446744073709551616) : (bits BinOp.and IntKind.u64 ((x : Int) / 2 ^ j) 1 == 1) = x.testBit j := by
  have e1 : (x : Int) / 2 ^ j = ((x / 2 ^ j : Nat) : Int) := by push_cast; rfl
  have hd : x / 2 ^ j < 18446744073709551616 := Nat.lt_of_le_of_lt (Nat.div_le_self _ _) hx
  rw [e1, show (1 : Int) = ((1 : Nat) : Int) from rfl, u64_and_nat _ _ hd (by decide), Nat.testBit_eq_decide_div_mod_eq, Nat.and_one_is_mod, Bool.eq_iff_iff, beq_iff_eq, decide_eq_true_iff]
  omega
set_option maxHeartbeats 2000000 in
theorem has_walk {w : World} {p : Option Addr} {n c : Nat} {P : List Pt} (h : St w p n c P) (z : Int) : Calls Try.prog 20 #[.agg #[.slice p n c], .int .i64 z] w fun e w' => e = .returned (.bool (decide (z ∈ ni P))) ∧ Kept w w' := by
  have k0 : Kept w (w.alloc (.cells #[.slice p n c] 25)) := (Kept.refl w).alloc _
  have hm := fun W => may_walk z W
  by_cases hz : 0 ≤ z ∧ z < 1048576
  · rw [show may z = true from decide_eq_true hz] at hm
    obtain ⟨m, rfl⟩ : ∃ m : Nat, z = (m : Int) := ⟨z.toNat, by omega⟩
    have hm20 : m < 1048576 := by omega
    obtain ⟨i, hC⟩ := cut_at h.ok (m / 64)
    have hin : i ≤ n := by have := hC.le; rw [h.len] at this; exact this
    have hS := fun W (k : Kept w W) => search_walk (h.kept k) (m / 64) i hC
    rw [has_bit h.ok m]
    have hf := h.few
    obtain ⟨k, hk⟩ : ∃ k, k = m / 64 := ⟨_, rfl⟩
    obtain ⟨r, hr⟩ : ∃ r, r = m % 64 := ⟨_, rfl⟩
    rw [← hk] at hS hC ⊢
    rw [← hr]
    have q1 : (m : Int) / 64 = (k : Int) := by omega
    have q2 : (m : Int) % 64 = (r : Int) := by omega
    have q3 : (m : Int).tdiv 64 = (k : Int) := by rw [Int.tdiv_eq_ediv_of_nonneg (by omega)]; omega
    have q4 : (m : Int).tmod 64 = (r : Int) := by rw [Int.tmod_eq_emod_of_nonneg (by omega)]; omega
    have hr64 : r < 64 := by omega
    by_cases hx : ∃ x, P[i]? = some x ∧ x.1 = k
    · obtain ⟨x, hx, e⟩ := hx
      have hfd : fnd P i k = true := by unfold fnd; rw [hx]; exact decide_eq_true e
      rw [wd_found h.ok hx e]
      rw [hfd] at hS
      have hok := h.ok.may x (List.mem_of_getElem? hx)
      obtain ⟨b, o, rfl, c0, c1⟩ := h.at hx
      obtain ⟨x1, x2⟩ := x
      simp only at c1 hok ⊢
      have hil : i < n := by have := (List.getElem?_eq_some_iff.1 hx).1; rw [h.len] at this; exact this
      have hb := bit_eq x2 r hok.2.2
      have HS : Hid _ := hS
      generalize Nat.testBit x2 r = bb at *
      have HB : Hid _ := hb
      have hx2 := hok.2.2
      clear hk hr hC hx e hfd h c0 hok hb hS
      go_enter Try.func20, Try.ntmps20
      go_wp2_with (first
        | (go_at_call 34; refine (hm _).mono ?_; rintro e w' ⟨rfl, hw'⟩; rw [hw']; clear hw')
        | (go_at_call 35; refine (HS.out _ k0).mono ?_; rintro e w1 ⟨rfl, k1⟩; have d1 := (k0.trans k1).cell c1; have d0 : w1.cell? ⟨w.heap.size, 0, none⟩ = some (.slice (some ⟨b, o, none⟩) n c) := k1.cell (by rw [cell_of_row _ _ 0 _ _ _ (heap_alloc_new w _)]; rfl)))
      go_ret
      exact ⟨congrArg (fun q => Ending.returned (Value.bool q)) HB.out, k0.trans k1⟩
    · have hfd : fnd P i k = false := by
        unfold fnd
        split
        · rename_i x hx1; exact decide_eq_false fun e => hx ⟨x, hx1, e⟩
        · rfl
      rw [wd_missed h.ok (i := i) hC.lo hC.hi (fun x hx1 e => hx ⟨x, hx1, e⟩), Nat.zero_testBit]
      rw [hfd] at hS
      have HS : Hid _ := hS
      clear hk hr hC hx hfd h hS
      go_enter Try.func20, Try.ntmps20
      go_wp2_with (first
        | (go_at_call 34; refine (hm _).mono ?_; rintro e w' ⟨rfl, hw'⟩; rw [hw']; clear hw')
        | (go_at_call 35; refine (HS.out _ k0).mono ?_; rintro e w1 ⟨rfl, k1⟩))
      go_ret
      exact ⟨rfl, k0.trans k1⟩
  · rw [show may z = false from decide_eq_false hz] at hm
    rw [decide_eq_false (fun hx => hz (ni_range h.ok hx))]
    clear h
    go_enter Try.func20, Try.ntmps20
    go_wp2_with (go_at_call 34; refine (hm _).mono ?_; rintro e w' ⟨rfl, hw'⟩; rw [hw']; clear hw')
    go_ret
    exact ⟨rfl, k0⟩

theorem part_guard : Try.prog.eqGuardType Try.prog.depth 42 = false := by kernel_rfl
theorem part_eq (a b c d : Int) (w : World) : (Op.equalIn 10000 42 (.agg #[.int .i64 a, .int .u64 b]) (.agg #[.int .i64 c, .int .u64 d])).run Try.prog w = .ok (a == c && b == d) w := by
  have u3 := Try.underlying3
  have a3 := Try.isAgg3
  have z3 := Try.sizeOf3
  have u4 := Try.underlying40
  have a4 := Try.isAgg40
  have z4 := Try.sizeOf40
  have hS : Try.prog.underlying 42 = some (.struct (Try.prog.fieldsOf 42)) := by kernel_rfl
  have hp : Try.prog.stoodInHeld 42 = false := by kernel_rfl
  rw [show (10000 : Nat) = 9999 + 1 from rfl, run_equalIn_agg w 9999 42 _ _ hS hp]
  simp only [Program.fieldsOf, Try.underlying42]
  go_simp
  by_cases h1 : a = c <;> by_cases h2 : b = d <;> simp [h1, h2]
theorem part_neq (a b c d : Int) (w : World) : (binOp .neq 42 (.agg #[.int .i64 a, .int .u64 b]) (.agg #[.int .i64 c, .int .u64 d])).run Try.prog w = .ok (.bool (!(a == c && b == d))) w := by
  rw [run_neq_struct, part_eq]; rfl
theorem take_same {P Q : List Pt} {i : Nat} {x : Pt} (h : P.take i = Q.take i) (hx : P[i]? = some x) (hy : Q[i]? = some x) : P.take (i + 1) = Q.take (i + 1) := by
  rw [List.take_add_one, List.take_add_one, h, hx, hy]

set_option maxHeartbeats 2000000 in
theorem equal_walk {w : World} {ps : Option Addr} {ns cs : Nat} {P : List Pt} {pt : Option Addr} {nt ct : Nat} {Q : List Pt} (hs : St w ps ns cs P) (ht : St w pt nt ct Q) :
    Calls Try.prog 24 #[.slice ps ns cs, .slice pt nt ct] w fun e w' => e = .returned (.bool (decide (P = Q))) ∧ Kept w w' := by
  have f1 := hs.few
  have f2 := ht.few
  have HS : Hid (St w ps ns cs P) := hs
  have HT : Hid (St w pt nt ct Q) := ht
  have HL : Hid (P.length = ns ∧ Q.length = nt) := ⟨hs.len, ht.len⟩
  clear hs ht
  by_cases hne : ns = nt
  · subst hne
    generalize hd : decide (P = Q) = d
    have HD : Hid (decide (P = Q) = d) := hd
    clear hd
    go_enter Try.func24, Try.ntmps24
    go_wp2
    go_loopg [13] ns (fun g s13 wr => ∃ i : Nat, s13 = .int .i64 (i : Nat) ∧ i ≤ ns ∧ ns - i ≤ g ∧ Hid (P.take i = Q.take i ∧ Kept w wr))
    case atStart => exact ⟨0, rfl, Nat.zero_le _, by omega, ⟨rfl, Kept.refl w⟩⟩
    case round =>
      obtain ⟨i, rfl, hi, hg, HK⟩ := hrel
      by_cases hlt : i < ns
      · obtain ⟨x, hx⟩ : ∃ x, P[i]? = some x := ⟨_, List.getElem?_eq_getElem (by rw [HL.out.1]; omega)⟩
        obtain ⟨y, hy⟩ : ∃ y, Q[i]? = some y := ⟨_, List.getElem?_eq_getElem (by rw [HL.out.2]; omega)⟩
        obtain ⟨b, o, rfl, c0, c1⟩ := (HS.out.kept HK.out.2).at hx
        obtain ⟨b', o', rfl, e0, e1⟩ := (HT.out.kept HK.out.2).at hy
        have HX : Hid (P[i]? = some x ∧ Q[i]? = some y) := ⟨hx, hy⟩
        clear hx hy
        obtain ⟨x1, x2⟩ := x
        obtain ⟨y1, y2⟩ := y
        simp only at c0 c1 e0 e1
        have hgd := part_guard
        have hnq := fun W => part_neq (x1 : Nat) (x2 : Nat) (y1 : Nat) (y2 : Nat) W
        by_cases hxy : x1 = y1 ∧ x2 = y2
        · have hb : ((x1 : Int) == (y1 : Int) && (x2 : Int) == (y2 : Int)) = true := by simp; omega
          rw [hb] at hnq
          have HT1 : Hid (P.take (i + 1) = Q.take (i + 1)) := take_same HK.out.1 HX.out.1 (by rw [hxy.1, hxy.2]; exact HX.out.2)
          have HK2 : Hid (Kept w wr) := HK.out.2
          clear hb hxy HX HK
          go_upto_region 6 with fail
          go_quiet (fail)
          go_wp2
          go_roundg (ns - (i + 1))
          case measure => omega
          case rel => exact ⟨i + 1, by go_num, by omega, Nat.le_refl _, ⟨HT1.out, HK2.out.drewN _⟩⟩
        · have hb : ((x1 : Int) == (y1 : Int) && (x2 : Int) == (y2 : Int)) = false := by simp; omega
          rw [hb] at hnq
          have he : d = false := by
            rw [← HD.out]
            refine decide_eq_false fun e => hxy ?_
            have := HX.out
            rw [e] at this
            have e2 := this.1.symm.trans this.2
            simp at e2; exact e2
          have HK2 : Hid (Kept w wr) := HK.out.2
          clear hb hxy HX HK
          go_upto_region 6 with fail
          go_quiet (fail)
          go_wp2
          go_ret
          exact ⟨by rw [he]; rfl, HK2.out.drewN _⟩
      · obtain rfl : i = ns := by omega
        have he : d = true := by
          rw [← HD.out]
          have := HK.out.1
          rw [List.take_of_length_le (by rw [HL.out.1]; exact Nat.le_refl _), List.take_of_length_le (by rw [HL.out.2]; exact Nat.le_refl _)] at this
          exact decide_eq_true this
        have hk := HK.out.2
        clear HK
        go_wp2
        go_ret
        exact ⟨by rw [he]; rfl, hk⟩
  · have he : decide (P = Q) = false := decide_eq_false fun e => hne (by rw [← HL.out.1, ← HL.out.2, e])
    rw [he]
    have hne' : ¬ ((ns : Int) = (nt : Int)) := by omega
    go_enter Try.func24, Try.ntmps24
    go_wp2
    go_ret
    exact ⟨rfl, Kept.refl w⟩
set_option maxHeartbeats 1000000 in
theorem same_walk {w : World} {ps : Option Addr} {ns cs : Nat} {P : List Pt} {pt : Option Addr} {nt ct : Nat} {Q : List Pt} (hs : St w ps ns cs P) (ht : St w pt nt ct Q) :
    Calls Try.prog 9 #[.agg #[.slice ps ns cs], .agg #[.slice pt nt ct]] w fun e w' => e = .returned (.bool (decide (P = Q))) ∧ Kept w w' := by
  have k0 : Kept w ((w.alloc (.cells #[.slice ps ns cs] 25)).alloc (.cells #[.slice pt nt ct] 25)) := ((Kept.refl w).alloc _).alloc _
  have hm := equal_walk (hs.kept k0) (ht.kept k0)
  generalize decide (P = Q) = d at *
  clear hs ht
  go_enter Try.func9, Try.ntmps9
  go_wp2_with (go_at_call 24; refine hm.mono ?_; rintro e w1 ⟨rfl, k1⟩)
  go_ret
  exact ⟨rfl, k0.trans k1⟩
end Go.Proofs.Ytanccfbbaeocaaa.Bt
