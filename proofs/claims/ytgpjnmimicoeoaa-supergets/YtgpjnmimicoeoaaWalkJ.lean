/- The walks of the reference's May, Put and Get. Conditions: numbers are within their kinds; bytes are below 256. -/
import Derived.Test.YtgpjnmimicoeoaaWalkI
namespace Go.Proofs.Ytgpjnmimicoeoaa
open Go.ChangeShapes Go.WideShapes Go.ChangeAt Go.RowKit
attribute [local go_sem ↓] Go.wp_at_zero Go.wp_at_succ

set_option maxRecDepth 100000 in
theorem rmay_yes (kd nm : Int) (g : Nat) (s : ByteArray) (h1 : 1 ≤ kd) (h2 : kd ≤ 4) (h3 : 0 ≤ nm) (h4 : nm < 16384) (h5 : s.size ≤ 237) (w : World) :
    Calls Try.prog 21 #[.agg #[.int .i64 kd, .int .i64 nm, .int .u64 (g : Nat), .string s]] w fun e w' => e = .returned (.bool true) ∧ Kept w w' := by
  have h5 : (s.size : Int) ≤ 237 := by omega
  go_enter Try.func21, Try.ntmps21
  go_wp2
  go_ret
  exact ⟨rfl, (Kept.refl w).alloc _⟩

set_option maxRecDepth 100000 in
theorem rmay_no (kd nm : Int) (g : Nat) (s : ByteArray) (h : ¬ (1 ≤ kd ∧ kd ≤ 4 ∧ 0 ≤ nm ∧ nm < 16384 ∧ s.size ≤ 237)) (w : World) :
    Calls Try.prog 21 #[.agg #[.int .i64 kd, .int .i64 nm, .int .u64 (g : Nat), .string s]] w fun e w' => e = .returned (.bool false) ∧ Kept w w' := by
  have HK : Hid (∀ o, Kept w (w.alloc o)) := fun o => (Kept.refl w).alloc o
  by_cases h1 : 1 ≤ kd
  · by_cases h2 : kd ≤ 4
    · by_cases h3 : 0 ≤ nm
      · by_cases h4 : nm < 16384
        · have h5 : ¬ (s.size : Int) ≤ 237 := fun h5 => h ⟨h1, h2, h3, h4, by omega⟩
          clear h
          go_enter Try.func21, Try.ntmps21
          go_wp2
          go_ret
          exact ⟨rfl, HK.out _⟩
        · clear h
          go_enter Try.func21, Try.ntmps21
          go_wp2
          go_ret
          exact ⟨rfl, HK.out _⟩
      · clear h
        go_enter Try.func21, Try.ntmps21
        go_wp2
        go_ret
        exact ⟨rfl, HK.out _⟩
    · clear h
      go_enter Try.func21, Try.ntmps21
      go_wp2
      go_ret
      exact ⟨rfl, HK.out _⟩
  · clear h
    go_enter Try.func21, Try.ntmps21
    go_wp2
    go_ret
    exact ⟨rfl, HK.out _⟩

set_option maxRecDepth 100000 in
theorem rput_no (kd nm : Int) (g : Nat) (s : ByteArray) (h : ¬ (1 ≤ kd ∧ kd ≤ 4 ∧ 0 ≤ nm ∧ nm < 16384 ∧ s.size ≤ 237)) (w : World) :
    Calls Try.prog 12 #[.agg #[.int .i64 kd, .int .i64 nm, .int .u64 (g : Nat), .string s]] w fun e w' => e = .returned (.string ⟨#[]⟩) ∧ Kept w w' := by
  have h9 := rmay_no kd nm g s h
  clear h
  go_enter Try.func12, Try.ntmps12
  go_wp2_with (go_at_call 21; refine (h9 _).mono ?_; rintro e w1 ⟨rfl, k1⟩)
  go_ret
  exact ⟨rfl, ((Kept.refl w).alloc _).trans k1⟩

set_option maxRecDepth 100000 in
set_option maxHeartbeats 4000000 in
theorem rput_yes (k n g : Nat) (l : List Nat) (h1 : 1 ≤ k) (h2 : k ≤ 4) (h4 : n < 16384) (hg : g < 18446744073709551616) (h5 : l.length ≤ 237) (w : World) :
    Calls Try.prog 12 #[.agg #[.int .i64 (k : Nat), .int .i64 (n : Nat), .int .u64 (g : Nat), .string (bs l)]] w fun e w' => e = .returned (.string (bs (pageL k n g l))) ∧ Kept w w' := by
  have hz := bs_size l
  have h9 := rmay_yes k n g (bs l) (by omega) (by omega) (by omega) (by omega) (by omega)
  have a1 : ∀ w, Calls Try.prog 22 #[.int .u64 (k : Nat), .int .i64 1] w fun e w' => e = .returned (.string (bs (fixL k 1))) ∧ Kept w w' := fun w => reffixed_walk k (by omega) 1 (by omega) w
  have a2 : ∀ w, Calls Try.prog 22 #[.int .u64 (n : Nat), .int .i64 4] w fun e w' => e = .returned (.string (bs (fixL n 4))) ∧ Kept w w' := fun w => reffixed_walk n (by omega) 4 (by omega) w
  have a3 : ∀ w, Calls Try.prog 22 #[.int .u64 (g : Nat), .int .i64 8] w fun e w' => e = .returned (.string (bs (fixL g 8))) ∧ Kept w w' := fun w => reffixed_walk g hg 8 (by omega) w
  have a4 : ∀ w, Calls Try.prog 22 #[.int .u64 (l.length : Nat), .int .i64 2] w fun e w' => e = .returned (.string (bs (fixL l.length 2))) ∧ Kept w w' := fun w => reffixed_walk l.length (by omega) 2 (by omega) w
  have a6 : ∀ w, Calls Try.prog 23 #[.string (bs (headL k n g l))] w fun e w' => e = .returned (.int .u32 (chk (headL k n g l) : Nat)) ∧ Kept w w' :=
    fun w => (ref_walk (bs (headL k n g l)) (by rw [bs_size, headL_length _ _ _ _ h5]; decide) w).mono (by rintro e w' ⟨rfl, rfl⟩; exact ⟨rfl, Kept.refl _⟩)
  have hcl := chk_lt (headL k n g l)
  have a7 : ∀ w, Calls Try.prog 22 #[.int .u64 (chk (headL k n g l) : Nat), .int .i64 4] w fun e w' => e = .returned (.string (bs (fixL (chk (headL k n g l)) 4))) ∧ Kept w w' := fun w => reffixed_walk _ (by omega) 4 (by omega) w
  have z1 : (bs (fixL k 1)).size = 1 := by rw [bs_size, fixL_length]
  have z2 : (bs (fixL n 4)).size = 4 := by rw [bs_size, fixL_length]
  have z3 : (bs (fixL g 8)).size = 8 := by rw [bs_size, fixL_length]
  have z4 : (bs (fixL l.length 2)).size = 2 := by rw [bs_size, fixL_length]
  have z6 : (bs (headL k n g l)).size = 252 := by rw [bs_size, headL_length _ _ _ _ h5]
  have z7 : (bs (fixL (chk (headL k n g l)) 4)).size = 4 := by rw [bs_size, fixL_length]
  obtain ⟨pre, hpre⟩ : ∃ pre, pre = fixL k 1 ++ (fixL n 4 ++ (fixL g 8 ++ (fixL l.length 2 ++ l))) := ⟨_, rfl⟩
  have zp : pre.length = 15 + l.length := by rw [hpre]; simp only [List.length_append, fixL_length]; omega
  have c1 : bs (fixL k 1) ++ bs (fixL n 4) ++ bs (fixL g 8) ++ bs (fixL l.length 2) ++ bs l = bs pre := by
    rw [hpre]; simp only [bs_append, List.append_assoc]
  have HH : Hid (bs (pre ++ List.replicate (237 - l.length) 0) = bs (headL k n g l)) := by
    show _ = _
    rw [hpre]; simp only [headL, List.append_assoc]
  have c2 : bs (headL k n g l) ++ bs (fixL (chk (headL k n g l)) 4) = bs (pageL k n g l) := bs_append _ _
  have HS : Hid (∀ j, (bs (pre ++ List.replicate j 0)).size = 15 + l.length + j ∧ bs (pre ++ List.replicate j 0) ++ ⟨#[0]⟩ = bs (pre ++ List.replicate (j + 1) 0)) := by
    intro j
    refine ⟨by rw [bs_size]; simp [zp], ?_⟩
    rw [show (⟨#[0]⟩ : ByteArray) = bs [0] from rfl, bs_append, List.append_assoc, ← List.replicate_succ']
  clear hpre
  generalize chk (headL k n g l) = C at *
  generalize bs (pageL k n g l) = R at *
  generalize bs (headL k n g l) = H at *
  generalize bs (fixL k 1) = s1 at *
  generalize bs (fixL n 4) = s2 at *
  generalize bs (fixL g 8) = s3 at *
  generalize bs (fixL l.length 2) = s4 at *
  generalize bs (fixL C 4) = s6 at *
  generalize bs l = s at *
  generalize l.length = L at *
  subst hz
  have u1 : IntKind.u64.wrap (k : Int) = (k : Int) := by rw [IntKind.wrap_u64]; omega
  have u2 : IntKind.u64.wrap (n : Int) = (n : Int) := by rw [IntKind.wrap_u64]; omega
  have u4 : IntKind.u64.wrap (s.size : Int) = (s.size : Int) := by rw [IntKind.wrap_u64]; omega
  have b0 : (s.size : Int) ≤ 237 := by omega
  have y1 : ¬ 9223372036854775807 < 15 + s.size := by omega
  have HP : Hid (pre ++ List.replicate 0 0 = pre) := by show _ = _; simp
  clear zp
  go_enter Try.func12, Try.ntmps12
  go_wp2_with (go_at_call 21; refine (h9 _).mono ?_; rintro e w1 ⟨rfl, k1⟩; have P0 := (k1.drew).pg (Pg.alloc w k n g s 34); obtain ⟨c0, c1, c2, c3⟩ := P0.cs)
  go_region_held3 (fun W => W.cell? ⟨w.heap.size, 0, none⟩ = some (.int .i64 (k : Nat)) ∧ W.cell? ⟨w.heap.size, 1, none⟩ = some (.int .i64 (n : Nat)) ∧ W.cell? ⟨w.heap.size, 2, none⟩ = some (.int .u64 (g : Nat)) ∧ W.cell? ⟨w.heap.size, 3, none⟩ = some (.string s)) (go_keep) (first
    | (go_at_call 22; with_reducible refine (a1 _).mono ?_; rintro e v1 ⟨rfl, q1⟩; have P1 := q1.pg P0; obtain ⟨c10, c11, c12, c13⟩ := P1.cs)
    | (go_at_call 22; with_reducible refine (a2 _).mono ?_; rintro e v2 ⟨rfl, q2⟩; have P2 := q2.pg P1; obtain ⟨c20, c21, c22, c23⟩ := P2.cs)
    | (go_at_call 22; with_reducible refine (a3 _).mono ?_; rintro e v3 ⟨rfl, q3⟩; have P3 := q3.pg P2; obtain ⟨c30, c31, c32, c33⟩ := P3.cs)
    | (go_at_call 22; with_reducible refine (a4 _).mono ?_; rintro e v4 ⟨rfl, q4⟩; have P4 := q4.pg P3; obtain ⟨c40, c41, c42, c43⟩ := P4.cs))
  clear P0 P1 P2 P3 P4 c10 c11 c12 c13 c20 c21 c22 c23 c30 c31 c32 c33 c40 c41 c42 c43 a1 a2 a3 a4 u1 u2 u4 y1
  have KV : Hid (Kept w v4) := (((((Kept.refl w).alloc _).trans k1).drew.trans q1).trans q2).trans (q3.trans q4)
  clear q1 q2 q3 q4 k1
  go_wp2
  go_loopg [3] (237 - s.size) (fun r v wx => ∃ j, j + r = 237 - s.size ∧ v = .string (bs (pre ++ List.replicate j 0)) ∧ wx = v4)
  case atStart => exact ⟨0, by omega, by rw [HP.out], rfl⟩
  case round =>
    obtain ⟨j, hj, rfl, rfl⟩ := hrel
    obtain ⟨hs1, hs2⟩ := HS.out j
    cases gk with
    | zero =>
      have hj : j = 237 - s.size := by omega
      rw [hj] at hs1 ⊢
      rw [HH.out] at hs1 ⊢
      clear hs1 hs2
      go_wp2_with (first
        | (go_at_call 23; with_reducible refine (a6 _).mono ?_; rintro e v6 ⟨rfl, q6⟩)
        | (go_at_call 22; with_reducible refine (a7 _).mono ?_; rintro e v7 ⟨rfl, q7⟩))
      go_ret
      exact ⟨rfl, KV.out.trans (q6.trans q7)⟩
    | succ r =>
      have hlt : (bs (pre ++ List.replicate j 0)).size < 252 := by omega
      have HJ : Hid (j + (r + 1) = 237 - s.size) := hj
      have HN : Hid (∃ t, bs (pre ++ List.replicate (j + 1) 0) = t) := ⟨_, rfl⟩
      generalize hn : bs (pre ++ List.replicate (j + 1) 0) = t at *
      have HT : Hid (bs (pre ++ List.replicate (j + 1) 0) = t) := hn
      generalize bs (pre ++ List.replicate j 0) = t0 at *
      clear hn HN hs1 hj
      go_wp2
      go_roundg r
      case measure => omega
      case rel => exact ⟨j + 1, by have := HJ.out; omega, by rw [HT.out], rfl⟩

theorem rput_walk (kd nm : Int) (g : Nat) (hg : g < 18446744073709551616) (l : List Nat) (w : World) :
    Calls Try.prog 12 #[.agg #[.int .i64 kd, .int .i64 nm, .int .u64 (g : Nat), .string (bs l)]] w fun e w' => e = .returned (.string (bs (putL kd nm g l))) ∧ Kept w w' := by
  by_cases h : May kd nm l
  · rw [putL_may h]
    obtain ⟨h1, h2, h3, h4, h5⟩ := h
    have := rput_yes kd.toNat nm.toNat g l (by omega) (by omega) (by omega) hg h5 w
    rwa [show ((kd.toNat : Nat) : Int) = kd by omega, show ((nm.toNat : Nat) : Int) = nm by omega] at this
  · rw [putL_not h]
    refine rput_no kd nm g (bs l) ?_ w
    rw [bs_size]
    exact h
end Go.Proofs.Ytgpjnmimicoeoaa
