/- The walks of the reference's reader: fail, Num over whatever bytes up to 16384, End. Conditions: no error is noted; all bytes are below 256; there are 100000 at most. -/
import Derived.Test.YtgpjnmimicoeoaaWalkK
import Derived.Test.YtgpjnmimicoeoaaNum
namespace Go.Proofs.Ytgpjnmimicoeoaa
open Go.ChangeShapes Go.WideShapes Go.ChangeAt Go.RowKit
attribute [local go_sem ↓] Go.wp_at_zero Go.wp_at_succ

set_option maxRecDepth 100000 in
set_option maxHeartbeats 1000000 in
theorem rfail_walk (S : ByteArray) (x : Int) (w : World) :
    Calls Try.prog 38 #[.agg #[.string S, .int .i64 0], .int .i64 x] w fun e w' => e = .returned (.agg #[.string S, .int .i64 x]) ∧ Kept w w' := by
  have Q1 := Rr.alloc (w.alloc (.cells #[.string S, .int .i64 x] 53)) S x
  rw [show (w.alloc (.cells #[.string S, .int .i64 x] 53)).heap.size = w.heap.size + 1 by simp] at Q1
  have hk : Kept w ((w.alloc (.cells #[.string S, .int .i64 x] 53)).alloc (.cells #[.string S, .int .i64 x] 53)) := ((Kept.refl w).alloc _).alloc _
  go_enter Try.func38, Try.ntmps38
  go_wp2
  refine bodyPost_ret (v := .agg #[.string S, .int .i64 x]) ?_ rfl ⟨rfl, hk⟩
  exact results_cell_row rfl _ _ (w.heap.size + 1) 53 _ (0, 0) _ rfl Q1.out Try.underlying53 rfl size53

set_option maxRecDepth 100000 in
set_option maxHeartbeats 1000000 in
theorem rend_walk (S : ByteArray) (x : Int) (w : World) :
    Calls Try.prog 26 #[.agg #[.string S, .int .i64 x]] w fun e w' => Kept w w' ∧ ∃ y : Int, e = .returned (.int .i64 y) ∧ (S.size = 0 → x = 0 → y = 0) := by
  have HK : Hid (∀ o, Kept w (w.alloc o)) := fun o => (Kept.refl w).alloc o
  by_cases h : x = 0
  · subst h
    by_cases hz : S.size = 0
    · go_enter Try.func26, Try.ntmps26
      go_wp2
      go_ret
      exact ⟨HK.out _, 0, rfl, fun _ _ => rfl⟩
    · have hz' : (0 : Int) < (S.size : Int) := by omega
      go_enter Try.func26, Try.ntmps26
      go_wp2
      go_ret
      exact ⟨HK.out _, 5, rfl, fun h => absurd h hz⟩
  · have hx : (x == 0) = false := by simp; exact h
    go_enter Try.func26, Try.ntmps26
    go_wp2
    go_ret
    exact ⟨HK.out _, x, rfl, fun _ h2 => absurd h2 h⟩

/-- One part more, whatever there is; a number's, if it is one's. -/
theorem part_add (A y k : Nat) :
    ∃ B : Nat, B < 18446744073709551616 ∧ IntKind.u64.wrap ((A : Int) + IntKind.u64.wrap ((y : Int) % 128 * 2 ^ (7 * k))) = (B : Int) ∧
      ∀ m, m ≤ 16384 → A = m % 128 ^ k → m % 128 ^ (k + 1) = m % 128 ^ k + y % 128 * 128 ^ k → B = m % 128 ^ (k + 1) := by
  have e : (128 : Nat) ^ k = 2 ^ (7 * k) := by rw [Nat.pow_mul]
  have h4 : ((y : Int) % 128 * 2 ^ (7 * k)) = ((y % 128 * 2 ^ (7 * k) : Nat) : Int) := by simp
  refine ⟨(A + y % 128 * 2 ^ (7 * k)) % 18446744073709551616, Nat.mod_lt _ (by decide), ?_, ?_⟩
  · rw [h4, IntKind.wrap_u64, IntKind.wrap_u64]
    omega
  · intro m hm hAm hs
    rw [hs, hAm, e]
    have h2 : m % 128 ^ (k + 1) ≤ m := Nat.mod_le _ _
    rw [hs, e] at h2
    exact Nat.mod_eq_of_lt (by omega)

/-- What the reference's Num answers. -/
structure NumIs (l : List Nat) (S : ByteArray) (x : Int) (n : Nat) : Prop where
  most : n ≤ 16384
  own : ∀ m, m ≤ 16384 → l = numL m → S.size = 0 ∧ x = 0 ∧ n = m

theorem NumIs.none {l : List Nat} (S : ByteArray) (x : Int) (h : ∀ m, m ≤ 16384 → l = numL m → False) : NumIs l S x 0 :=
  ⟨by omega, fun m h1 h2 => (h m h1 h2).elim⟩

set_option maxRecDepth 100000 in
set_option maxHeartbeats 1000000 in
theorem rrnum_any (l : List Nat) (hl : Small l) (ht : l.length ≤ 100000) (w : World) :
    Calls Try.prog 25 #[.agg #[.string (bs l), .int .i64 0], .int .u64 16384] w fun e w' => Kept w w' ∧ ∃ (S : ByteArray) (x : Int) (n : Nat), e = .returned (.tuple #[.agg #[.string S, .int .i64 x], .int .u64 (n : Nat)]) ∧ NumIs l S x n := by
  have hfl := rfail_walk (bs l)
  generalize hs : bs l = s at *
  have HL : Hid (s.size = l.length) := by show _ = _; rw [← hs, bs_size]
  have HB : Hid (∀ k (h : k < s.size), s[k].toNat = l.getD k 0) := by subst hs; exact fun k h => by rw [bs_get _ k h, Nat.mod_eq_of_lt (hl.getD k)]
  have hsm : s.size ≤ 100000 := by rw [HL.out]; exact ht
  have HSm : Hid (Small l) := hl
  have HZ : Hid (Rr ((w.alloc (Obj.cells #[Value.string s, Value.int IntKind.i64 0] 53)).alloc (Obj.cells #[Value.string ⟨#[]⟩, Value.int IntKind.i64 0] 53)) (w.heap.size + 1) ⟨#[]⟩ 0) := by
    have := Rr.alloc (w.alloc (.cells #[.string s, .int .i64 0] 53)) ⟨#[]⟩ 0
    rwa [show (w.alloc (.cells #[.string s, .int .i64 0] 53)).heap.size = w.heap.size + 1 by simp] at this
  have HE : Hid (∀ E, Rr ((w.alloc (Obj.cells #[Value.string s, Value.int IntKind.i64 0] 53)).alloc (Obj.cells #[Value.string E, Value.int IntKind.i64 0] 53)) (w.heap.size + 1) E 0) := by
    intro E
    have := Rr.alloc (w.alloc (.cells #[.string s, .int .i64 0] 53)) E 0
    rwa [show (w.alloc (.cells #[.string s, .int .i64 0] 53)).heap.size = w.heap.size + 1 by simp] at this
  have HK : Hid (∀ w1 o, Kept ((w.alloc (Obj.cells #[Value.string s, Value.int IntKind.i64 0] 53)).alloc o) w1 → ∀ t x, Kept w ((w1.setCell ⟨w.heap.size + 1, 0, none⟩ (.string t)).setCell ⟨w.heap.size + 1, 1, none⟩ (.int .i64 x))) :=
    fun w1 o h t x => (((((Kept.refl w).alloc _).alloc _).trans h).set (Nat.le_succ _) _).set (Nat.le_succ _) _
  have HQ : Hid (∀ o, Kept w ((w.alloc (Obj.cells #[Value.string s, Value.int IntKind.i64 0] 53)).alloc o)) := fun o => ((Kept.refl w).alloc _).alloc _
  clear hs hl ht
  go_enter Try.func25, Try.ntmps25
  go_wp2
  go_loopg [6, 7] 10 (fun g acc at_ wx => ∃ k A : Nat, k + g = 10 ∧ A < 18446744073709551616 ∧ (k = 0 → A = 0) ∧ (∀ m, m ≤ 16384 → l = numL m → A = m % 128 ^ k ∧ k < s.size) ∧ acc = .int .u64 (A : Nat) ∧ at_ = .int .i64 k ∧ wx = (w.alloc (Obj.cells #[Value.string s, Value.int IntKind.i64 0] 53)).alloc (Obj.cells #[Value.string ⟨#[]⟩, Value.int IntKind.i64 0] 53))
  case atStart => exact ⟨0, 0, by omega, by omega, fun _ => rfl, fun m _ e => ⟨by rw [Nat.pow_zero, Nat.mod_one], by rw [HL.out, e]; have := numL_ne m; cases h : numL m with
      | nil => exact absurd h this
      | cons _ _ => simp⟩, rfl, rfl, rfl⟩
  case round =>
    obtain ⟨k, A, hg, hA, hz, hm, rfl, rfl, rfl⟩ := hrel
    have HA0 : Hid (k = 0 → A = 0) := hz
    clear hz
    have HM : Hid (∀ m, m ≤ 16384 → l = numL m → A = m % 128 ^ k ∧ k < s.size) := hm
    have HG : Hid (k + gk = 10) := hg
    clear hm
    cases gk with
    | zero =>
      obtain rfl : k = 10 := by omega
      clear hg
      go_wp2_with (go_at_call 38; refine (hfl _ _).mono ?_; rintro e w1 ⟨rfl, q1⟩; have Z1 := q1.rr HZ.out; obtain ⟨⟨d0, e0⟩, d1, e1⟩ := Z1.ready s)
      refine bodyPost_ret (v := .tuple #[.agg #[.string s, .int .i64 3], .int .u64 0]) ?_ rfl ⟨HK.out _ _ q1 _ _, s, 3, 0, rfl, NumIs.none _ _ fun m h1 h2 => ?_⟩
      · exact results_two (p := 4) (u := 5) (ty := 53) rfl _ _ (w.heap.size + 1) 53 _ (0, 0) _ rfl (Z1.fill s 3).out Try.underlying53 rfl size53
      · have := (HM.out m h1 h2).2
        rw [HL.out, h2] at this
        have := numL_three h1
        omega
    | succ g =>
      have hk9 : k ≤ 9 := by omega
      clear hg
      by_cases hks : k < s.size
      · have hx0 := HB.out k hks
        have hy := HSm.out.getD k
        have hst : ∀ m, m ≤ 16384 → l = numL m → A = m % 128 ^ k ∧ m % 128 ^ (k + 1) = m % 128 ^ k + l.getD k 0 % 128 * 128 ^ k ∧ (l.getD k 0 < 128 → k + 1 = l.length ∧ m % 128 ^ (k + 1) = m ∧ (k = 0 ∨ l.getD k 0 ≠ 0)) ∧ (¬ l.getD k 0 < 128 → k + 1 < s.size) ∧ k ≤ 2 := by
          intro m h1 h2
          have h3 : k < (numL m).length := by rw [← h2, ← HL.out]; exact hks
          obtain ⟨a, b, c⟩ := num_step k m h3
          have h4 := numL_three h1
          rw [← h2] at a b c h3 h4
          exact ⟨(HM.out m h1 h2).1, a, b, fun h => by rw [HL.out]; exact c h, by omega⟩
        generalize hyy : l.getD k 0 = y at *
        clear hyy
        have HST : Hid (∀ m, m ≤ 16384 → l = numL m → A = m % 128 ^ k ∧ m % 128 ^ (k + 1) = m % 128 ^ k + y % 128 * 128 ^ k ∧ (y < 128 → k + 1 = l.length ∧ m % 128 ^ (k + 1) = m ∧ (k = 0 ∨ y ≠ 0)) ∧ (¬ y < 128 → k + 1 < s.size) ∧ k ≤ 2) := hst
        clear hst
        by_cases hbad : k = 9 ∧ 1 < y ∨ 0 < k ∧ y = 0
        · have HN : Hid (∀ m, m ≤ 16384 → l = numL m → False) := by
            intro m h1 h2
            obtain ⟨a, b, c, d, f⟩ := HST.out m h1 h2
            rcases hbad with ⟨h3, _⟩ | ⟨h3, h4⟩
            · omega
            · rcases (c (by omega)).2.2 with h5 | h5
              · omega
              · exact h5 h4
          rcases hbad with ⟨rfl, h3⟩ | ⟨h3, rfl⟩
          · have h4 : (1 : Int) < (y : Int) := by omega
            go_wp2_with (go_at_call 38; refine (hfl _ _).mono ?_; rintro e w1 ⟨rfl, q1⟩; have Z1 := q1.rr HZ.out; obtain ⟨⟨d0, e0⟩, d1, e1⟩ := Z1.ready s)
            all_goals
              refine bodyPost_ret (v := .tuple #[.agg #[.string s, .int .i64 3], .int .u64 0]) ?_ rfl ⟨HK.out _ _ q1 _ _, s, 3, 0, rfl, NumIs.none _ _ HN.out⟩
              exact results_two (p := 4) (u := 5) (ty := 53) rfl _ _ (w.heap.size + 1) 53 _ (0, 0) _ rfl (Z1.fill s 3).out Try.underlying53 rfl size53
          · have h4 : (0 : Int) < (k : Int) := by omega
            go_wp2_with (go_at_call 38; refine (hfl _ _).mono ?_; rintro e w1 ⟨rfl, q1⟩; have Z1 := q1.rr HZ.out; obtain ⟨⟨d0, e0⟩, d1, e1⟩ := Z1.ready s)
            all_goals
              refine bodyPost_ret (v := .tuple #[.agg #[.string s, .int .i64 3], .int .u64 0]) ?_ rfl ⟨HK.out _ _ q1 _ _, s, 3, 0, rfl, NumIs.none _ _ HN.out⟩
              exact results_two (p := 4) (u := 5) (ty := 53) rfl _ _ (w.heap.size + 1) 53 _ (0, 0) _ rfl (Z1.fill s 3).out Try.underlying53 rfl size53
        · have b1 : ((k : Int) == 9 && decide ((1 : Int) < (y : Int))) = false := by
            apply Bool.eq_false_iff.2; intro h; simp at h; exact hbad (Or.inl ⟨by omega, by omega⟩)
          obtain ⟨B, hB, pB, qB⟩ := part_add A y k
          have HQQ : Hid (∀ m, m ≤ 16384 → A = m % 128 ^ k → m % 128 ^ (k + 1) = m % 128 ^ k + y % 128 * 128 ^ k → B = m % 128 ^ (k + 1)) := qB
          clear qB
          by_cases h1 : y < 128
          · have HE2 := HE.out (s.extract (k + 1) s.size)
            have HI : Hid (B ≤ 16384 → NumIs l (s.extract (k + 1) s.size) 0 B) := by
              refine fun hBm => ⟨hBm, fun m h2 h3 => ?_⟩
              obtain ⟨a, b, c, _⟩ := HST.out m h2 h3
              obtain ⟨c1, c2, _⟩ := c h1
              refine ⟨?_, rfl, (HQQ.out m h2 a b).trans c2⟩
              have := HL.out
              simp only [ByteArray.size_extract]
              omega
            have HN : Hid (¬ B ≤ 16384 → ∀ m, m ≤ 16384 → l = numL m → False) := by
              intro hBm m h2 h3
              obtain ⟨a, b, c, _⟩ := HST.out m h2 h3
              obtain ⟨c1, c2, _⟩ := c h1
              have := (HQQ.out m h2 a b).trans c2
              omega
            have hke : ((k : Int) + 1).toNat = k + 1 := by omega
            generalize hE : s.extract (k + 1) s.size = E at *
            have HKE := HQ.out (.cells #[.string E, .int .i64 0] 53)
            by_cases h0 : y = 0
            · obtain rfl : k = 0 := by
                apply Classical.byContradiction; intro hk; exact hbad (Or.inr ⟨by omega, h0⟩)
              obtain rfl : A = 0 := HA0.out rfl
              subst h0
              obtain rfl : B = 0 := by simp [IntKind.wrap_u64] at pB; omega
              clear hbad b1 pB
              have hse : ¬ s = ByteArray.empty := by intro h; rw [h] at hks; exact absurd hks (by decide)
              go_wp2
              refine bodyPost_ret (v := .tuple #[.agg #[.string E, .int .i64 0], .int .u64 0]) ?_ rfl ⟨HKE, E, 0, 0, rfl, HI.out (by omega)⟩
              exact results_two (p := 4) (u := 5) (ty := 53) rfl _ _ (w.heap.size + 1) 53 _ (0, 0) _ rfl HE2.out Try.underlying53 rfl size53
            · have t0 : ((y : Int) == 0) = false := by simp; omega
              by_cases h9 : k = 9
              · subst h9
                have hy1 : y ≤ 1 := by
                  apply Classical.byContradiction; intro hk; exact hbad (Or.inl ⟨rfl, by omega⟩)
                have p9 : IntKind.u64.wrap ((A : Int) + (y : Int) % 128 * 9223372036854775808) = (B : Int) := by
                  rw [← pB, IntKind.wrap_u64, IntKind.wrap_u64, IntKind.wrap_u64]; omega
                clear hbad b1 pB
                have hs0 : ¬ (s.size : Int) ≤ 9 := by omega
                have hy2 : ¬ (1 : Int) < (y : Int) := by omega
                by_cases hBm : B ≤ 16384
                · go_wp2
                  all_goals
                    refine bodyPost_ret (v := .tuple #[.agg #[.string E, .int .i64 0], .int .u64 (B : Nat)]) ?_ rfl ⟨HKE, E, 0, B, rfl, HI.out hBm⟩
                    exact results_two (p := 4) (u := 5) (ty := 53) rfl _ _ (w.heap.size + 1) 53 _ (0, 0) _ rfl HE2.out Try.underlying53 rfl size53
                · have hBm' : (16384 : Int) < (B : Int) := by omega
                  go_wp2_with (go_at_call 38; refine (hfl _ _).mono ?_; rintro e w1 ⟨rfl, q1⟩; have Z1 := q1.rr HZ.out; obtain ⟨⟨d0, e0⟩, d1, e1⟩ := Z1.ready s)
                  all_goals
                    refine bodyPost_ret (v := .tuple #[.agg #[.string s, .int .i64 4], .int .u64 0]) ?_ rfl ⟨HK.out _ _ q1 _ _, s, 4, 0, rfl, NumIs.none _ _ (HN.out hBm)⟩
                    exact results_two (p := 4) (u := 5) (ty := 53) rfl _ _ (w.heap.size + 1) 53 _ (0, 0) _ rfl (Z1.fill s 4).out Try.underlying53 rfl size53
              · have t9 : ((k : Int) == 9) = false := by simp; omega
                clear hbad b1
                by_cases hBm : B ≤ 16384
                · go_wp2
                  all_goals
                    refine bodyPost_ret (v := .tuple #[.agg #[.string E, .int .i64 0], .int .u64 (B : Nat)]) ?_ rfl ⟨HKE, E, 0, B, rfl, HI.out hBm⟩
                    exact results_two (p := 4) (u := 5) (ty := 53) rfl _ _ (w.heap.size + 1) 53 _ (0, 0) _ rfl HE2.out Try.underlying53 rfl size53
                · have hBm' : (16384 : Int) < (B : Int) := by omega
                  go_wp2_with (go_at_call 38; refine (hfl _ _).mono ?_; rintro e w1 ⟨rfl, q1⟩; have Z1 := q1.rr HZ.out; obtain ⟨⟨d0, e0⟩, d1, e1⟩ := Z1.ready s)
                  all_goals
                    refine bodyPost_ret (v := .tuple #[.agg #[.string s, .int .i64 4], .int .u64 0]) ?_ rfl ⟨HK.out _ _ q1 _ _, s, 4, 0, rfl, NumIs.none _ _ (HN.out hBm)⟩
                    exact results_two (p := 4) (u := 5) (ty := 53) rfl _ _ (w.heap.size + 1) 53 _ (0, 0) _ rfl (Z1.fill s 4).out Try.underlying53 rfl size53
          · have t0 : ((y : Int) == 0) = false := by simp; omega
            have t9 : ((k : Int) == 9) = false := by simp; omega
            have hk8 : k ≤ 8 := by omega
            clear hbad b1
            go_wp2
            all_goals
              go_roundg g
              case measure => omega
              case rel =>
                refine ⟨k + 1, B, by have := HG.out; omega, hB, by omega, fun m h2 h3 => ?_, rfl, by go_num, rfl⟩
                obtain ⟨a, b, _, d, _⟩ := HST.out m h2 h3
                exact ⟨HQQ.out m h2 a b, d h1⟩
      · have hks' : (s.size : Int) ≤ (k : Int) := by omega
        have HN : Hid (∀ m, m ≤ 16384 → l = numL m → False) := fun m h1 h2 => hks (HM.out m h1 h2).2
        go_wp2_with (go_at_call 38; refine (hfl _ _).mono ?_; rintro e w1 ⟨rfl, q1⟩; have Z1 := q1.rr HZ.out; obtain ⟨⟨d0, e0⟩, d1, e1⟩ := Z1.ready s)
        refine bodyPost_ret (v := .tuple #[.agg #[.string s, .int .i64 2], .int .u64 0]) ?_ rfl ⟨HK.out _ _ q1 _ _, s, 2, 0, rfl, NumIs.none _ _ HN.out⟩
        exact results_two (p := 4) (u := 5) (ty := 53) rfl _ _ (w.heap.size + 1) 53 _ (0, 0) _ rfl (Z1.fill s 2).out Try.underlying53 rfl size53
end Go.Proofs.Ytgpjnmimicoeoaa
