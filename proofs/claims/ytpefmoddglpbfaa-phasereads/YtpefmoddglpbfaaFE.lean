/- The walks of the reference's reader: fail, Num over whatever bytes, End. Conditions: all bytes are below 256; there are 100000 at most; a limit is below 2^63. -/
import Derived.Test.YtpefmoddglpbfaaFB
import Derived.Test.YtpefmoddglpbfaaFC
namespace Go.Proofs.Ytpefmoddglpbfaa.Ph
open Go.ChangeShapes Go.WideShapes Go.ChangeAt Go.RowKit
open N (bs bs_get bs_size bs_extract numL Small Kept)

theorem size33 : (Try.prog.info? 33).map (·.size) = some 2 := by kernel_rfl

/-- A reference's reader in memory. -/
structure Rr (w : World) (b : Nat) (s : ByteArray) (e : Int) : Prop where
  out : w.heap[b]? = some (.cells #[.string s, .int .i64 e] 33)
theorem Rr.kept {w w' : World} {b : Nat} {s : ByteArray} {e : Int} (k : Rr w b s e) (h : Kept w w') : Rr w' b s e := ⟨h.block k.out⟩
theorem Rr.made (w : World) (s : ByteArray) (e : Int) : Rr (w.alloc (.cells #[.string s, .int .i64 e] 33)) w.heap.size s e := ⟨heap_alloc_new w _⟩
theorem Rr.cs {w : World} {b : Nat} {s : ByteArray} {e : Int} (k : Rr w b s e) : w.cell? ⟨b, 0, none⟩ = some (.string s) ∧ w.cell? ⟨b, 1, none⟩ = some (.int .i64 e) :=
  ⟨by rw [cell_of_row w b 0 _ _ _ k.out]; rfl, by rw [cell_of_row w b 1 _ _ _ k.out]; rfl⟩
theorem Rr.fz {w : World} {b : Nat} {s : ByteArray} {e : Int} (k : Rr w b s e) (j : Nat) : w.frozen? ⟨b, j, none⟩ = false := frozen_of_row w b j _ _ k.out
theorem Rr.set0 {w : World} {b : Nat} {s : ByteArray} {e : Int} (k : Rr w b s e) (t : ByteArray) : Rr (w.setCell ⟨b, 0, none⟩ (.string t)) b t e :=
  ⟨by rw [heap_setCell_same w b 0 _ _ _ k.out]; rfl⟩
theorem Rr.set1 {w : World} {b : Nat} {s : ByteArray} {e : Int} (k : Rr w b s e) (x : Int) : Rr (w.setCell ⟨b, 1, none⟩ (.int .i64 x)) b s x :=
  ⟨by rw [heap_setCell_same w b 1 _ _ _ k.out]; rfl⟩
theorem Rr.ready {w : World} {b : Nat} {s : ByteArray} {e : Int} (k : Rr w b s e) (t : ByteArray) :
    (w.cell? ⟨b, 0, none⟩ = some (.string s) ∧ w.frozen? ⟨b, 0, none⟩ = false) ∧
    (w.setCell ⟨b, 0, none⟩ (.string t)).cell? ⟨b, 1, none⟩ = some (.int .i64 e) ∧ (w.setCell ⟨b, 0, none⟩ (.string t)).frozen? ⟨b, 1, none⟩ = false :=
  ⟨⟨k.cs.1, k.fz 0⟩, (k.set0 t).cs.2, (k.set0 t).fz 1⟩
/-- A reference's reader stored whole. -/
def stR (w : World) (b : Nat) (t : ByteArray) (x : Int) : World := (w.setCell ⟨b, 0, none⟩ (.string t)).setCell ⟨b, 1, none⟩ (.int .i64 x)
theorem Rr.fill {w : World} {b : Nat} {s : ByteArray} {e : Int} (k : Rr w b s e) (t : ByteArray) (x : Int) : Rr (stR w b t x) b t x := (k.set0 t).set1 x
theorem kept_sr {v w : World} (h : Kept v w) {b : Nat} (hb : v.heap.size ≤ b) (t : ByteArray) (x : Int) : Kept v (stR w b t x) := kept_set (kept_set h (p := ⟨b, 0, none⟩) hb _) (p := ⟨b, 1, none⟩) hb _

set_option maxRecDepth 100000 in
set_option maxHeartbeats 1000000 in
theorem rfail_walk (S : ByteArray) (x : Int) (w : World) :
    Calls Try.prog 19 #[.agg #[.string S, .int .i64 0], .int .i64 x] w fun e w' => e = .returned (.agg #[.string S, .int .i64 x]) ∧ Kept w w' := by
  have Q1 := Rr.made (w.alloc (.cells #[.string S, .int .i64 x] 33)) S x
  rw [show (w.alloc (.cells #[.string S, .int .i64 x] 33)).heap.size = w.heap.size + 1 by simp] at Q1
  have hk : Kept w ((w.alloc (.cells #[.string S, .int .i64 x] 33)).alloc (.cells #[.string S, .int .i64 x] 33)) := ((Kept.refl w).alloc _).alloc _
  go_enter Try.func19, Try.ntmps19
  go_wp2
  refine bodyPost_ret (v := .agg #[.string S, .int .i64 x]) ?_ rfl ⟨rfl, hk⟩
  exact results_cell_row rfl _ _ (w.heap.size + 1) 33 _ (0, 0) _ rfl Q1.out Try.underlying33 rfl size33

set_option maxRecDepth 100000 in
set_option maxHeartbeats 1000000 in
theorem rend_walk (S : ByteArray) (l : List Nat) (x : Int) (hS : x = 0 → S = bs l) (hl : x ≠ 0 → l = []) (w : World) :
    Calls Try.prog 12 #[.agg #[.string S, .int .i64 x]] w fun e w' => e = .returned (.int .i64 (fin l x)) ∧ Kept w w' := by
  have HK : Hid (∀ o, Kept w (w.alloc o)) := fun o => (Kept.refl w).alloc o
  by_cases h : x = 0
  · subst h
    obtain rfl := hS rfl
    by_cases hz : l = []
    · subst hz
      rw [fin, if_pos rfl]
      have hz2 : bs [] = ⟨#[]⟩ := rfl
      rw [hz2]
      go_enter Try.func12, Try.ntmps12
      go_wp2
      go_ret
      exact ⟨rfl, HK.out _⟩
    · rw [fin, if_neg hz]
      have hz' : (0 : Int) < ((bs l).size : Int) := by rw [bs_size]; have := List.length_pos_iff.2 hz; omega
      generalize bs l = s at *
      go_enter Try.func12, Try.ntmps12
      go_wp2
      go_ret
      exact ⟨rfl, HK.out _⟩
  · rw [fin, if_pos (hl h)]
    have hx : (x == 0) = false := by simp; exact h
    go_enter Try.func12, Try.ntmps12
    go_wp2
    go_ret
    exact ⟨rfl, HK.out _⟩

/-- One part more. -/
theorem part_add (A y k : Nat) (hs : A + y % 128 * 128 ^ k < 18446744073709551616) :
    IntKind.u64.wrap ((A : Int) + IntKind.u64.wrap ((y : Int) % 128 * 2 ^ (7 * k))) = ((A + y % 128 * 128 ^ k : Nat) : Int) := by
  have e : (128 : Nat) ^ k = 2 ^ (7 * k) := by rw [Nat.pow_mul]
  have h4 : ((y : Int) % 128 * 2 ^ (7 * k)) = ((y % 128 * 2 ^ (7 * k) : Nat) : Int) := by simp
  rw [e] at hs ⊢
  rw [h4, IntKind.wrap_u64, IntKind.wrap_u64]
  omega

set_option maxRecDepth 100000 in
set_option maxHeartbeats 2000000 in
theorem rnum_zero (l : List Nat) (hl : Small l) (ht : l.length ≤ 100000) (M : Nat) (w : World) :
    Calls Try.prog 11 #[.agg #[.string (bs l), .int .i64 0], .int .u64 (M : Nat)] w fun e w' => (∃ S, e = .returned (.tuple #[.agg #[.string S, .int .i64 (pass M l 0).2.1], .int .u64 ((pass M l 0).2.2 : Nat)]) ∧ ((pass M l 0).2.1 = 0 → S = bs (pass M l 0).1)) ∧ Kept w w' := by
  have hfl := rfail_walk (bs l)
  have HX : Hid (∀ k, (bs l).extract k (bs l).size = bs (l.drop k)) := fun k => by
    rw [bs_extract, bs_size, List.take_of_length_le (by rw [List.length_drop]; exact Nat.le_refl _)]
  have hsz : (bs l).size = l.length := bs_size l
  have hb : ∀ k (h : k < (bs l).size), (bs l)[k].toNat = l.getD k 0 := fun k h => by rw [bs_get _ k h, Nat.mod_eq_of_lt (hl.getD k)]
  generalize hs : bs l = s at *
  have HL : Hid (s.size = l.length) := hsz
  have HB : Hid (∀ k (h : k < s.size), s[k].toNat = l.getD k 0) := hb
  have hsm : s.size ≤ 100000 := by omega
  have HSm : Hid (Small l) := hl
  have HZ : Hid (Rr ((w.alloc (Obj.cells #[Value.string s, Value.int IntKind.i64 0] 33)).alloc (Obj.cells #[Value.string ⟨#[]⟩, Value.int IntKind.i64 0] 33)) (w.heap.size + 1) ⟨#[]⟩ 0) := by
    have := Rr.made (w.alloc (.cells #[.string s, .int .i64 0] 33)) ⟨#[]⟩ 0
    rwa [show (w.alloc (.cells #[.string s, .int .i64 0] 33)).heap.size = w.heap.size + 1 by simp] at this
  have HE : Hid (∀ E, Rr ((w.alloc (Obj.cells #[Value.string s, Value.int IntKind.i64 0] 33)).alloc (Obj.cells #[Value.string E, Value.int IntKind.i64 0] 33)) (w.heap.size + 1) E 0) := by
    intro E
    have := Rr.made (w.alloc (.cells #[.string s, .int .i64 0] 33)) E 0
    rwa [show (w.alloc (.cells #[.string s, .int .i64 0] 33)).heap.size = w.heap.size + 1 by simp] at this
  have HK : Hid (∀ w1 o, Kept ((w.alloc (Obj.cells #[Value.string s, Value.int IntKind.i64 0] 33)).alloc o) w1 → ∀ t x, Kept w (stR w1 (w.heap.size + 1) t x)) :=
    fun w1 o h t x => kept_sr ((((Kept.refl w).alloc _).alloc _).trans h) (Nat.le_succ _) t x
  have HQ : Hid (∀ o, Kept w ((w.alloc (Obj.cells #[Value.string s, Value.int IntKind.i64 0] 33)).alloc o)) := fun o => ((Kept.refl w).alloc _).alloc _
  have HF : Hid (∀ (x : Int) (n k : Nat), scan 0 0 l = (x, n, k) → x ≠ 0 → ∃ S, Ending.returned (.tuple #[.agg #[.string s, .int .i64 x], .int .u64 0]) = Ending.returned (.tuple #[.agg #[.string S, .int .i64 (pass M l 0).2.1], .int .u64 ((pass M l 0).2.2 : Nat)]) ∧ ((pass M l 0).2.1 = 0 → S = bs (pass M l 0).1)) := fun x n k h hx => by
    rw [pass_wrong h hx]; exact ⟨s, rfl, fun h => absurd h hx⟩
  have HO : Hid (∀ (n k : Nat), scan 0 0 l = (0, n, k) → M < n → ∃ S, Ending.returned (.tuple #[.agg #[.string s, .int .i64 4], .int .u64 0]) = Ending.returned (.tuple #[.agg #[.string S, .int .i64 (pass M l 0).2.1], .int .u64 ((pass M l 0).2.2 : Nat)]) ∧ ((pass M l 0).2.1 = 0 → S = bs (pass M l 0).1)) := fun n k h hn => by
    rw [pass_over h hn]; exact ⟨s, rfl, fun h => absurd h (by decide)⟩
  have HI : Hid (∀ (n k : Nat), scan 0 0 l = (0, n, k) → n ≤ M → ∃ S, Ending.returned (.tuple #[.agg #[.string (s.extract k s.size), .int .i64 0], .int .u64 (n : Nat)]) = Ending.returned (.tuple #[.agg #[.string S, .int .i64 (pass M l 0).2.1], .int .u64 ((pass M l 0).2.2 : Nat)]) ∧ ((pass M l 0).2.1 = 0 → S = bs (pass M l 0).1)) := fun n k h hn => by
    rw [pass_in h hn]; exact ⟨_, rfl, fun _ => HX.out k⟩
  generalize hR : (fun e => ∃ S, e = Ending.returned (.tuple #[.agg #[.string S, .int .i64 (pass M l 0).2.1], .int .u64 ((pass M l 0).2.2 : Nat)]) ∧ ((pass M l 0).2.1 = 0 → S = bs (pass M l 0).1)) = R
  have hR2 : ∀ e, R e ↔ ∃ S, e = Ending.returned (.tuple #[.agg #[.string S, .int .i64 (pass M l 0).2.1], .int .u64 ((pass M l 0).2.2 : Nat)]) ∧ ((pass M l 0).2.1 = 0 → S = bs (pass M l 0).1) := fun e => by rw [← hR]
  have HR : Hid (∀ e, R e ↔ ∃ S, e = Ending.returned (.tuple #[.agg #[.string S, .int .i64 (pass M l 0).2.1], .int .u64 ((pass M l 0).2.2 : Nat)]) ∧ ((pass M l 0).2.1 = 0 → S = bs (pass M l 0).1)) := hR2
  suffices hgoal : Calls Try.prog 11 #[.agg #[.string s, .int .i64 0], .int .u64 (M : Nat)] w (fun e w' => R e ∧ Kept w w') from hgoal.mono fun e w' h => ⟨(HR.out e).1 h.1, h.2⟩
  clear hs hl ht hsz hb HX hR hR2
  go_enter Try.func11, Try.ntmps11
  go_wp2
  go_loopg [6, 7] 10 (fun g acc at_ wx => ∃ k A : Nat, k + g = 10 ∧ k ≤ 9 ∧ A < 128 ^ k ∧ scan 0 0 l = scan k A (l.drop k) ∧ acc = .int .u64 (A : Nat) ∧ at_ = .int .i64 k ∧ wx = (w.alloc (Obj.cells #[Value.string s, Value.int IntKind.i64 0] 33)).alloc (Obj.cells #[Value.string ⟨#[]⟩, Value.int IntKind.i64 0] 33))
  case atStart => exact ⟨0, 0, by omega, by omega, by decide, by simp, rfl, rfl, rfl⟩
  case round =>
    obtain ⟨k, A, hg, hk9, hA, hsc, rfl, rfl, rfl⟩ := hrel
    have HG : Hid (k + gk = 10) := hg
    have HA : Hid (A < 128 ^ k) := hA
    have HS : Hid (scan 0 0 l = scan k A (l.drop k)) := hsc
    clear hA hsc
    cases gk with
    | zero => omega
    | succ g =>
      clear hg
      by_cases hks : k < s.size
      · have hx0 := HB.out k hks
        have hy := HSm.out.getD k
        have hd : l.drop k = l.getD k 0 :: l.drop (k + 1) := by
          have h1 : k < l.length := by rw [← HL.out]; exact hks
          rw [List.drop_eq_getElem_cons h1, List.getD, List.getElem?_eq_getElem h1]; rfl
        have HD : Hid (l.drop k = l.getD k 0 :: l.drop (k + 1)) := hd
        clear hd
        generalize hyy : l.getD k 0 = y at *
        clear hyy
        have hc : scan 0 0 l = scan k A (y :: l.drop (k + 1)) := by rw [HS.out, HD.out]
        have HC : Hid (scan 0 0 l = scan k A (y :: l.drop (k + 1))) := hc
        clear hc
        by_cases hbad : k = 9 ∧ 1 < y ∨ 0 < k ∧ y = 0
        · have HN := (HR.out _).2 (HF.out 3 0 0 (by rw [HC.out, scan_form hbad]) (by decide))
          have HN2 : Hid (R (Ending.returned (.tuple #[.agg #[.string s, .int .i64 3], .int .u64 0]))) := HN
          clear HN
          rcases hbad with ⟨rfl, h3⟩ | ⟨h3, rfl⟩
          · have h4 : (1 : Int) < (y : Int) := by omega
            go_wp2_with (go_at_call 19; refine (hfl _ _).mono ?_; rintro e w1 ⟨rfl, q1⟩; have Z1 := HZ.out.kept q1; obtain ⟨⟨d0, e0⟩, d1, e1⟩ := Z1.ready s)
            all_goals
              refine bodyPost_ret (v := .tuple #[.agg #[.string s, .int .i64 3], .int .u64 0]) ?_ rfl ⟨HN2.out, HK.out _ _ q1 _ _⟩
              exact results_two (p := 4) (u := 5) (ty := 33) rfl _ _ (w.heap.size + 1) 33 _ (0, 0) _ rfl (Z1.fill s 3).out Try.underlying33 rfl size33
          · have h4 : (0 : Int) < (k : Int) := by omega
            go_wp2_with (go_at_call 19; refine (hfl _ _).mono ?_; rintro e w1 ⟨rfl, q1⟩; have Z1 := HZ.out.kept q1; obtain ⟨⟨d0, e0⟩, d1, e1⟩ := Z1.ready s)
            all_goals
              refine bodyPost_ret (v := .tuple #[.agg #[.string s, .int .i64 3], .int .u64 0]) ?_ rfl ⟨HN2.out, HK.out _ _ q1 _ _⟩
              exact results_two (p := 4) (u := 5) (ty := 33) rfl _ _ (w.heap.size + 1) 33 _ (0, 0) _ rfl (Z1.fill s 3).out Try.underlying33 rfl size33
        · have b1 : ((k : Int) == 9 && decide ((1 : Int) < (y : Int))) = false := by
            apply Bool.eq_false_iff.2; intro h; simp at h; exact hbad (Or.inl ⟨by omega, by omega⟩)
          have hsum : A + y % 128 * 128 ^ k < 18446744073709551616 := by
            have h1 := HA.out
            by_cases h9 : k = 9
            · subst h9
              have : y ≤ 1 := by apply Classical.byContradiction; intro hk; exact hbad (Or.inl ⟨rfl, by omega⟩)
              omega
            · have hp := pow_le (show k ≤ 8 by omega)
              have : y % 128 * 128 ^ k ≤ 127 * 128 ^ k := Nat.mul_le_mul_right _ (by omega)
              omega
          have pB := part_add A y k hsum
          obtain ⟨B, hBe⟩ : ∃ B, B = A + y % 128 * 128 ^ k := ⟨_, rfl⟩
          rw [← hBe] at pB
          have HBe : Hid (B = A + y % 128 * 128 ^ k) := hBe
          clear hsum hBe
          by_cases h1 : y < 128
          · have hsl : scan 0 0 l = (0, B, k + 1) := by rw [HC.out, scan_last hbad h1, HBe.out, Nat.mod_eq_of_lt h1]
            have HI2 : Hid (B ≤ M → R (Ending.returned (.tuple #[.agg #[.string (s.extract (k + 1) s.size), .int .i64 0], .int .u64 (B : Nat)]))) := fun h => (HR.out _).2 (HI.out B (k + 1) hsl h)
            have HO2 : Hid (M < B → R (Ending.returned (.tuple #[.agg #[.string s, .int .i64 4], .int .u64 0]))) := fun h => (HR.out _).2 (HO.out B (k + 1) hsl h)
            have HE2 := HE.out (s.extract (k + 1) s.size)
            have hke : ((k : Int) + 1).toNat = k + 1 := by omega
            clear hsl
            generalize hE : s.extract (k + 1) s.size = E at *
            have HKE := HQ.out (.cells #[.string E, .int .i64 0] 33)
            by_cases h0 : y = 0
            · obtain rfl : k = 0 := by
                apply Classical.byContradiction; intro hk; exact hbad (Or.inr ⟨by omega, h0⟩)
              obtain rfl : A = 0 := by have := HA.out; omega
              subst h0
              obtain rfl : B = 0 := by simp [IntKind.wrap_u64] at pB; omega
              clear hbad b1 pB
              have hse : ¬ s = ByteArray.empty := by intro h; rw [h] at hks; exact absurd hks (by decide)
              go_wp2
              refine bodyPost_ret (v := .tuple #[.agg #[.string E, .int .i64 0], .int .u64 0]) ?_ rfl ⟨HI2.out (by omega), HKE⟩
              exact results_two (p := 4) (u := 5) (ty := 33) rfl _ _ (w.heap.size + 1) 33 _ (0, 0) _ rfl HE2.out Try.underlying33 rfl size33
            · have t0 : ((y : Int) == 0) = false := by simp; omega
              by_cases h9 : k = 9
              · subst h9
                have hy1 : y ≤ 1 := by
                  apply Classical.byContradiction; intro hk; exact hbad (Or.inl ⟨rfl, by omega⟩)
                have p9 : IntKind.u64.wrap ((A : Int) + (y : Int) % 128 * 9223372036854775808) = (B : Int) := by
                  rw [← pB, IntKind.wrap_u64, IntKind.wrap_u64, IntKind.wrap_u64]; omega
                clear hbad b1 pB
                have hs0 : ¬ (s.size : Int) ≤ 9 := by omega
                have hy2 : ¬ (1 : Int) < (y : Int) := by omega
                by_cases hBm : B ≤ M
                · go_wp2
                  all_goals
                    refine bodyPost_ret (v := .tuple #[.agg #[.string E, .int .i64 0], .int .u64 (B : Nat)]) ?_ rfl ⟨HI2.out hBm, HKE⟩
                    exact results_two (p := 4) (u := 5) (ty := 33) rfl _ _ (w.heap.size + 1) 33 _ (0, 0) _ rfl HE2.out Try.underlying33 rfl size33
                · have hBm' : (M : Int) < (B : Int) := by omega
                  go_wp2_with (go_at_call 19; refine (hfl _ _).mono ?_; rintro e w1 ⟨rfl, q1⟩; have Z1 := HZ.out.kept q1; obtain ⟨⟨d0, e0⟩, d1, e1⟩ := Z1.ready s)
                  all_goals
                    refine bodyPost_ret (v := .tuple #[.agg #[.string s, .int .i64 4], .int .u64 0]) ?_ rfl ⟨HO2.out (by omega), HK.out _ _ q1 _ _⟩
                    exact results_two (p := 4) (u := 5) (ty := 33) rfl _ _ (w.heap.size + 1) 33 _ (0, 0) _ rfl (Z1.fill s 4).out Try.underlying33 rfl size33
              · have t9 : ((k : Int) == 9) = false := by simp; omega
                clear hbad b1
                by_cases hBm : B ≤ M
                · go_wp2
                  all_goals
                    refine bodyPost_ret (v := .tuple #[.agg #[.string E, .int .i64 0], .int .u64 (B : Nat)]) ?_ rfl ⟨HI2.out hBm, HKE⟩
                    exact results_two (p := 4) (u := 5) (ty := 33) rfl _ _ (w.heap.size + 1) 33 _ (0, 0) _ rfl HE2.out Try.underlying33 rfl size33
                · have hBm' : (M : Int) < (B : Int) := by omega
                  go_wp2_with (go_at_call 19; refine (hfl _ _).mono ?_; rintro e w1 ⟨rfl, q1⟩; have Z1 := HZ.out.kept q1; obtain ⟨⟨d0, e0⟩, d1, e1⟩ := Z1.ready s)
                  all_goals
                    refine bodyPost_ret (v := .tuple #[.agg #[.string s, .int .i64 4], .int .u64 0]) ?_ rfl ⟨HO2.out (by omega), HK.out _ _ q1 _ _⟩
                    exact results_two (p := 4) (u := 5) (ty := 33) rfl _ _ (w.heap.size + 1) 33 _ (0, 0) _ rfl (Z1.fill s 4).out Try.underlying33 rfl size33
          · have HM : Hid (scan 0 0 l = scan (k + 1) B (l.drop (k + 1)) ∧ B < 128 ^ (k + 1) ∧ k + 1 ≤ 9) := by
              refine ⟨by rw [HC.out, scan_more hbad h1, HBe.out], ?_, by omega⟩
              have h2 := HA.out
              have : y % 128 * 128 ^ k ≤ 127 * 128 ^ k := Nat.mul_le_mul_right _ (by omega)
              rw [HBe.out, Nat.pow_succ]; omega
            have t0 : ((y : Int) == 0) = false := by simp; omega
            have t9 : ((k : Int) == 9) = false := by simp; omega
            have hk8 : k ≤ 8 := by omega
            clear hbad b1
            go_wp2
            all_goals
              go_roundg g
              case measure => omega
              case rel =>
                exact ⟨k + 1, B, by have := HG.out; omega, HM.out.2.2, HM.out.2.1, HM.out.1, rfl, by go_num, rfl⟩
      · have hks' : (s.size : Int) ≤ (k : Int) := by omega
        have HN := (HR.out _).2 (HF.out 2 0 0 (by rw [HS.out, List.drop_of_length_le (by rw [← HL.out]; omega), scan_nil]) (by decide))
        have HN2 : Hid (R (Ending.returned (.tuple #[.agg #[.string s, .int .i64 2], .int .u64 0]))) := HN
        clear HN
        go_wp2_with (go_at_call 19; refine (hfl _ _).mono ?_; rintro e w1 ⟨rfl, q1⟩; have Z1 := HZ.out.kept q1; obtain ⟨⟨d0, e0⟩, d1, e1⟩ := Z1.ready s)
        refine bodyPost_ret (v := .tuple #[.agg #[.string s, .int .i64 2], .int .u64 0]) ?_ rfl ⟨HN2.out, HK.out _ _ q1 _ _⟩
        exact results_two (p := 4) (u := 5) (ty := 33) rfl _ _ (w.heap.size + 1) 33 _ (0, 0) _ rfl (Z1.fill s 2).out Try.underlying33 rfl size33

set_option maxRecDepth 100000 in
theorem rnum_late (S : ByteArray) (x : Int) (hx : x ≠ 0) (M : Nat) (w : World) :
    Calls Try.prog 11 #[.agg #[.string S, .int .i64 x], .int .u64 (M : Nat)] w fun e w' => e = .returned (.tuple #[.agg #[.string S, .int .i64 x], .int .u64 0]) ∧ Kept w w' := by
  have Q1 := Rr.made (w.alloc (.cells #[.string S, .int .i64 x] 33)) S x
  rw [show (w.alloc (.cells #[.string S, .int .i64 x] 33)).heap.size = w.heap.size + 1 by simp] at Q1
  have hk : Kept w ((w.alloc (.cells #[.string S, .int .i64 x] 33)).alloc (.cells #[.string S, .int .i64 x] 33)) := ((Kept.refl w).alloc _).alloc _
  have t0 : (x == 0) = false := by simp [hx]
  go_enter Try.func11, Try.ntmps11
  go_wp2
  refine bodyPost_ret (v := .tuple #[.agg #[.string S, .int .i64 x], .int .u64 0]) ?_ rfl ⟨rfl, hk⟩
  exact results_two (p := 4) (u := 5) (ty := 33) rfl _ _ (w.heap.size + 1) 33 _ (0, 0) _ rfl Q1.out Try.underlying33 rfl size33

theorem rnum_pass (S : ByteArray) (l : List Nat) (x : Int) (hS : x = 0 → S = bs l) (hl : Small l) (ht : l.length ≤ 100000) (M : Nat) (w : World) :
    Calls Try.prog 11 #[.agg #[.string S, .int .i64 x], .int .u64 (M : Nat)] w fun e w' => (∃ S, e = .returned (.tuple #[.agg #[.string S, .int .i64 (pass M l x).2.1], .int .u64 ((pass M l x).2.2 : Nat)]) ∧ ((pass M l x).2.1 = 0 → S = bs (pass M l x).1)) ∧ Kept w w' := by
  by_cases hx : x = 0
  · subst hx
    obtain rfl := hS rfl
    exact rnum_zero l hl ht M w
  · rw [pass_err hx]
    refine (rnum_late S x hx M w).mono ?_
    rintro e w' ⟨rfl, k⟩
    exact ⟨⟨S, rfl, fun h => absurd h hx⟩, k⟩
end Go.Proofs.Ytpefmoddglpbfaa.Ph
