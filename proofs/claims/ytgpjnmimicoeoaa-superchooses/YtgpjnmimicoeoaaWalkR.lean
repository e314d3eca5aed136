/- The walk of the statement's own get: the state that a sector says, at its place. Conditions: numbers are within their kinds; bytes are below 256. -/
import Derived.Test.YtgpjnmimicoeoaaWalkQ
import Derived.Test.YtgpjnmimicoeoaaWalkO
namespace Go.Proofs.Ytgpjnmimicoeoaa
open Go.ChangeShapes Go.WideShapes Go.ChangeAt Go.RowKit
attribute [local go_sem ↓] Go.wp_at_zero Go.wp_at_succ

set_option maxRecDepth 100000 in
set_option maxHeartbeats 1000000 in
theorem lget_A (S : ByteArray) (a : Int) (k n : Int) (g : Int) (d : ByteArray)
    (f24 : ∀ W, Calls Try.prog 24 #[.string S] W fun e w' => e = .returned (.tuple #[.agg #[.int .i64 k, .int .i64 n, .int .u64 g, .string d], .bool false]) ∧ Kept W w') (w : World) :
    Calls Try.prog 13 #[.string S, .int .i64 a] w fun e w' => e = .returned (.tuple #[.agg #[.int .u64 0, .int .i64 0], .bool false]) ∧ Kept w w' := by
  go_enter Try.func13, Try.ntmps13
  go_wp2_with (go_at_call 24; (with_reducible refine (f24 _).mono ?_); rintro e v1 ⟨rfl, q1⟩; have Z1 := ((Kept.refl v1).alloc (.cells #[.int .i64 k, .int .i64 n, .int .u64 g, .string d] 34)).sp (q1.sp (Sp.alloc w 0 0)); obtain ⟨⟨g0, h0⟩, g1, h1⟩ := Z1.ready 0)
  refine bodyPost_ret (v := .tuple #[.agg #[.int .u64 0, .int .i64 0], .bool false]) ?_ rfl ⟨rfl, ?_⟩
  · exact results_two (p := 4) (u := 5) (ty := 24) rfl _ _ w.heap.size 24 _ (0, 0) _ rfl (Z1.fill 0 0).out Try.underlying24 rfl size24
  · exact ((((((Kept.refl w).alloc _).trans q1).alloc _).set (Nat.le_refl _) _).set (Nat.le_refl _) _)

set_option maxRecDepth 100000 in
set_option maxHeartbeats 1000000 in
theorem lget_B (S : ByteArray) (a : Int) (k n : Int) (g : Int) (d : ByteArray) (hk : ¬ k = 1)
    (f24 : ∀ W, Calls Try.prog 24 #[.string S] W fun e w' => e = .returned (.tuple #[.agg #[.int .i64 k, .int .i64 n, .int .u64 g, .string d], .bool true]) ∧ Kept W w') (w : World) :
    Calls Try.prog 13 #[.string S, .int .i64 a] w fun e w' => e = .returned (.tuple #[.agg #[.int .u64 0, .int .i64 0], .bool false]) ∧ Kept w w' := by
  have t1 : (k == 1) = false := by simp; exact hk
  go_enter Try.func13, Try.ntmps13
  go_wp2_with (go_at_call 24; (with_reducible refine (f24 _).mono ?_); rintro e v1 ⟨rfl, q1⟩; have Z1 := ((Kept.refl v1).alloc (.cells #[.int .i64 k, .int .i64 n, .int .u64 g, .string d] 34)).sp (q1.sp (Sp.alloc w 0 0)); obtain ⟨⟨g0, h0⟩, g1, h1⟩ := Z1.ready 0)
  refine bodyPost_ret (v := .tuple #[.agg #[.int .u64 0, .int .i64 0], .bool false]) ?_ rfl ⟨rfl, ?_⟩
  · exact results_two (p := 4) (u := 5) (ty := 24) rfl _ _ w.heap.size 24 _ (0, 0) _ rfl (Z1.fill 0 0).out Try.underlying24 rfl size24
  · exact ((((((Kept.refl w).alloc _).trans q1).alloc _).set (Nat.le_refl _) _).set (Nat.le_refl _) _)

/-- Over the bytes of a number up to 16384 it is that, and nothing is left. -/
structure OwnR (l : List Nat) (n : Nat) (y : Int) : Prop where
  out : ∀ m, m ≤ 16384 → l = numL m → n = m ∧ y = 0

set_option maxRecDepth 100000 in
set_option maxHeartbeats 2000000 in
theorem lget_C (s l : List Nat) (S D : ByteArray) (a t : Int) (N G : Nat) (ht : ((G : Int) % 2) = t) (P : Nat → ByteArray) (Q : Nat → Bool)
    (f24 : ∀ W, Calls Try.prog 24 #[.string S] W fun e w' => e = .returned (.tuple #[.agg #[.int .i64 1, .int .i64 (N : Nat), .int .u64 (G : Nat), .string D], .bool true]) ∧ Kept W w')
    (f25 : ∀ W, Calls Try.prog 25 #[.agg #[.string D, .int .i64 0], .int .u64 16384] W fun e w' => Kept W w' ∧ ∃ (S : ByteArray) (x : Int) (n : Nat), e = .returned (.tuple #[.agg #[.string S, .int .i64 x], .int .u64 (n : Nat)]) ∧ NumIs l S x n)
    (f26 : ∀ S x W, Calls Try.prog 26 #[.agg #[.string S, .int .i64 x]] W fun e w' => Kept W w' ∧ ∃ y : Int, e = .returned (.int .i64 y) ∧ (S.size = 0 → x = 0 → y = 0))
    (f10 : ∀ (x : Nat) W, Calls Try.prog 10 #[.agg #[.int .u64 (G : Nat), .int .i64 ((x : Int) - 1)]] W fun e w' => e = .returned (.string (P x)) ∧ Kept W w')
    (hc : ∀ x, ((P x).toList == S.toList) = Q x)
    (hy : ∀ x, x ≤ 16384 → Q x = true → t = a → SGet s a (.returned (.tuple #[.agg #[.int .u64 (G : Nat), .int .i64 ((x : Int) - 1)], .bool true])))
    (hn : ∀ x y, x ≤ 16384 → OwnR l x y → ¬ (y = 0 ∧ Q x = true ∧ t = a) → SGet s a (.returned (.tuple #[.agg #[.int .u64 0, .int .i64 0], .bool false]))) (w : World) :
    Calls Try.prog 13 #[.string S, .int .i64 a] w fun e w' => SGet s a e ∧ Kept w w' := by
  have F25 : Hid _ := f25
  have F26 : Hid _ := f26
  have F10 : Hid _ := f10
  have HC : Hid _ := hc
  have HY : Hid _ := hy
  have HN : Hid _ := hn
  clear f25 f26 f10 hc hy hn
  go_enter Try.func13, Try.ntmps13
  go_wp2_with (first
    | (go_at_call 24; (with_reducible refine (f24 _).mono ?_); rintro e v1 ⟨rfl, q1⟩; have Z1 := ((Kept.refl v1).alloc (.cells #[.int .i64 1, .int .i64 (N : Nat), .int .u64 (G : Nat), .string D] 34)).sp (q1.sp (Sp.alloc w 0 0)); have P1 := Pg.alloc v1 1 N G D 34)
    | (go_at_call 25; (with_reducible refine (F25.out _).mono ?_); rintro e v2 ⟨q2, S2, x2, n, rfl, hnum⟩; have k2 : Kept v2 (v2.alloc (.cells #[.string S2, .int .i64 x2] 53)) := (Kept.refl v2).alloc _; have P2 := k2.pg (q2.pg P1); obtain ⟨p20, p21, p22, p23⟩ := P2.cs; have Z2 := (k2.alloc (.cells #[.int .u64 (G : Nat), .int .i64 ((n : Int) - 1)] 24)).sp (q2.sp Z1); have Y2 := Sp.alloc (v2.alloc (.cells #[.string S2, .int .i64 x2] 53)) G ((n : Int) - 1); rw [show (v2.alloc (.cells #[.string S2, .int .i64 x2] 53)).heap.size = v2.heap.size + 1 by simp] at Y2; have kk : Kept w ((v2.alloc (.cells #[.string S2, .int .i64 x2] 53)).alloc (.cells #[.int .u64 (G : Nat), .int .i64 ((n : Int) - 1)] 24)) := ((((((Kept.refl w).alloc _).trans q1).alloc _).trans q2).alloc _).alloc _; have hn1 := hnum.most; have hown : Hid (∀ m, m ≤ 16384 → l = numL m → S2.size = 0 ∧ x2 = 0 ∧ n = m) := hnum.own; clear hnum)
    | (go_at_call 26; (with_reducible refine (F26.out S2 x2 _).mono ?_); rintro e v3 ⟨q3, y, rfl, hy0⟩; have ow : OwnR l n y := ⟨fun m h1 h2 => ⟨(hown.out m h1 h2).2.2, hy0 (hown.out m h1 h2).1 (hown.out m h1 h2).2.1⟩⟩; have Z3 := q3.sp Z2; have Y3 := q3.sp Y2; obtain ⟨y30, y31⟩ := Y3.cs; obtain ⟨⟨g0, h0⟩, g1, h1⟩ := Z3.ready 0; clear hy0; have hcx := HC.out n; have F10x := F10.out n; have HYx : Hid (Q n = true → t = a → SGet s a (.returned (.tuple #[.agg #[.int .u64 (G : Nat), .int .i64 ((n : Int) - 1)], .bool true]))) := HY.out n hn1; have HNx : Hid (¬ (y = 0 ∧ Q n = true ∧ t = a) → SGet s a (.returned (.tuple #[.agg #[.int .u64 0, .int .i64 0], .bool false]))) := HN.out n y hn1 ow; clear F10 HC HY HN ow hown; generalize P n = PX at *; generalize Q n = QX at *)
    | (go_at_call 10; (with_reducible refine (F10x _).mono ?_); rintro e v4 ⟨rfl, q4⟩; have Z4 := q4.sp Z3; have Y4 := q4.sp Y3; obtain ⟨y40, y41⟩ := Y4.cs; obtain ⟨⟨g0', h0'⟩, g1', h1'⟩ := Z4.ready 0; obtain ⟨_, g1'', h1''⟩ := Z4.ready (G : Nat); cases QX))
  all_goals first
    | (refine bodyPost_ret (v := .tuple #[.agg #[.int .u64 (G : Nat), .int .i64 ((n : Int) - 1)], .bool true]) ?_ rfl ⟨HYx.out (by trivial) (bne_eq_false_iff_eq.1 (by assumption)), (((kk.trans q3).trans q4).set (Nat.le_refl _) _).set (Nat.le_refl _) _⟩
       exact results_two (p := 4) (u := 5) (ty := 24) rfl _ _ w.heap.size 24 _ (0, 0) _ rfl (Z4.fill G ((n : Int) - 1)).out Try.underlying24 rfl size24)
    | (refine bodyPost_ret (v := .tuple #[.agg #[.int .u64 0, .int .i64 0], .bool false]) ?_ rfl ⟨HNx.out (by first | (intro h; exact absurd h.2.2 (bne_iff_ne.1 (by assumption))) | (intro h; exact h.2.1.elim) | (intro h; cases h.2.1)), (((kk.trans q3).trans q4).set (Nat.le_refl _) _).set (Nat.le_refl _) _⟩
       exact results_two (p := 4) (u := 5) (ty := 24) rfl _ _ w.heap.size 24 _ (0, 0) _ rfl (Z4.fill 0 0).out Try.underlying24 rfl size24)
    | (refine bodyPost_ret (v := .tuple #[.agg #[.int .u64 0, .int .i64 0], .bool false]) ?_ rfl ⟨HNx.out (fun h => absurd h.1 (by assumption)), ((kk.trans q3).set (Nat.le_refl _) _).set (Nat.le_refl _) _⟩
       exact results_two (p := 4) (u := 5) (ty := 24) rfl _ _ w.heap.size 24 _ (0, 0) _ rfl (Z3.fill 0 0).out Try.underlying24 rfl size24)

theorem lget_walk (s : List Nat) (hs : Small s) (a : Int) (w : World) :
    Calls Try.prog 13 #[.string (bs s), .int .i64 a] w fun e w' => SGet s a e ∧ Kept w w' := by
  obtain ⟨v, f24, hv, k, n, g, d, he⟩ := rget_walk s hs
  by_cases ho : Okk s
  · have ho' := (okk_iff s).1 ho
    have hl : Small (fD s) := (hs.drop 15).take _
    have ht : (fD s).length ≤ 100000 := by have := okk_data ho; omega
    rw [decide_eq_true ho', hv ho'] at f24
    by_cases hk : fK s = 1
    · rw [hk] at f24
      refine lget_C s (fD s) (bs s) (bs (fD s)) a _ (fN s) (fG s) rfl (fun x => bs (supL (fG s) ((x : Int) - 1))) (fun x => decide (supL (fG s) ((x : Int) - 1) = s)) f24 (fun W => rrnum_any (fD s) hl ht W) rend_walk (fun x W => lput_walk _ _ W) (fun x => bs_eq (supL_small _ _) hs) ?_ ?_ w
      · intro x hx hq ha
        have hq := of_decide_eq_true hq
        by_cases hS : Sup (fG s) ((x : Int) - 1)
        · rw [supL_yes hS] at hq
          exact SGet.some hS hq.symm (by omega)
        · rw [supL_no hS] at hq
          rw [← hq] at ho
          exact absurd ho empty_not
      · intro x y hx ow hq
        refine SGet.none fun g r h1 h2 h5 => hq ?_
        obtain ⟨_, _, hG, hD⟩ := supP_okk h1
        rw [← h2] at hG hD
        have h3 := h1.2.2.1
        have h4 := h1.2.2.2
        obtain ⟨h6, h7⟩ := ow.out (r + 1).toNat (by omega) hD
        refine ⟨h7, decide_eq_true ?_, by omega⟩
        rw [hG, show (x : Int) - 1 = r by omega, supL_yes h1]
        exact h2.symm
    · refine (lget_B (bs s) a _ _ _ _ (by omega) f24 w).mono ?_
      rintro e w' ⟨rfl, hk'⟩
      refine ⟨SGet.none fun g r h1 h2 => ?_, hk'⟩
      obtain ⟨_, h3, _, _⟩ := supP_okk h1
      rw [← h2] at h3
      exact absurd h3 hk
  · have ho' : ¬ (s.length = 256 ∧ fC s ≤ 237 ∧ said s = s) := fun h => ho ((okk_iff s).2 h)
    rw [decide_eq_false ho', he] at f24
    refine (lget_A (bs s) a _ _ _ _ f24 w).mono ?_
    rintro e w' ⟨rfl, hk⟩
    refine ⟨SGet.none fun g r h1 h2 => ?_, hk⟩
    rw [h2] at ho
    exact absurd (supP_okk h1).1 ho
end Go.Proofs.Ytgpjnmimicoeoaa
