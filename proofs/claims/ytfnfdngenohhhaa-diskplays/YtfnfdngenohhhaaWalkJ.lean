/- The walks of Write, given what wait and act do, of awake, and of the law on no disk. Conditions: those of wait and act; a text of at most 256 bytes. -/
import Derived.Test.YtfnfdngenohhhaaWalkI
namespace Go.Proofs.Ytfnfdngenohhhaa
open Go.ChangeShapes Go.WideShapes Go.ChangeAt Go.RowKit

set_option maxHeartbeats 2000000 in
theorem write_go {B : Nat} {w : World} {b g : Nat} {d d1 d2 : Dk} (h : DiskAt B w b g d) (hB : B ≤ w.heap.size) (hd : d.dead = false) (n : Nat) (hn : n < d.secs.length) (s : ByteArray) (hs : s.size ≤ 256) (code : Int)
    (hwa : ∀ w1, DiskAt B w1 b g d → B ≤ w1.heap.size → Calls Try.prog 29 #[.pointer (some ⟨b, 0, none⟩), (Wr.mk n (whole s)).val] w1 fun e w2 => e = .returned (.tuple #[]) ∧ DiskAt B w2 b g d1 ∧ On B w1 w2)
    (hact : ∀ w1, DiskAt B w1 b g d1 → B ≤ w1.heap.size → Calls Try.prog 26 #[.pointer (some ⟨b, 0, none⟩)] w1 fun e w2 => e = .returned (.int .i64 code) ∧ DiskAt B w2 b g d2 ∧ On B w1 w2) :
    Calls Try.prog 13 #[.pointer (some ⟨b, 0, none⟩), .int .i64 (n : Nat), .string s] w fun e w' => e = .returned (.int .i64 code) ∧ DiskAt B w' b g d2 ∧ On B w w' := by
  have hw := dead_walk h
  rw [hd] at hw
  have hh := has_walk h (n : Int)
  rw [decide_eq_true (by omega)] at hh
  have hss : decide ((256 : Int) < (s.size : Int)) = false := by simp; omega
  unfold Wr.val at hwa
  go_enter Try.func13, Try.ntmps13
  go_wp2_with (first
    | (go_at_call 19; refine hw.mono ?_; rintro e w' ⟨rfl, hw'⟩; rw [hw']; clear hw')
    | (go_at_call 25; refine hh.mono ?_; rintro e w' ⟨rfl, hw'⟩; rw [hw']; clear hw')
    | (go_at_call 22; refine (whole_walk s hs _).mono ?_; rintro e w1 ⟨rfl, hk1⟩)
    | (go_at_call 29; refine (hwa w1 (hk1.dk h) (Nat.le_trans hB hk1.size)).mono ?_; rintro e w2 ⟨rfl, hd2, ho2⟩; have ho20 := (hk1.on hB).trans ho2)
    | (go_at_call 26; refine (hact w2 hd2 (Nat.le_trans hB ho20.size)).mono ?_; rintro e w3 ⟨rfl, hd3, ho3⟩))
  go_ret
  exact ⟨rfl, hd3, ho20.trans ho3⟩

theorem cuts_none (B : Nat) (w : World) : CutsAt B w (.slice none 0 0) [] := ⟨none, 0, rfl, Nat.le_refl _, Nat.zero_le _, fun j hj => absurd hj (by simp)⟩

theorem whole_get (s : ByteArray) (i : Nat) (hi : i < s.size) (h : i < (whole s).size) : (whole s)[i] = s[i] := by
  have hi' : i < s.data.size := hi
  exact Array.getElem_append_left (xs := s.data) (ys := Array.replicate (256 - s.size) 0) hi'

theorem whole_x0 : ∃ s0, whole ⟨#[120]⟩ = s0 ∧ s0.size = 256 ∧ ∃ h : 0 < s0.size, (s0[0]'h).toNat = 120 := by
  have h : 0 < (whole ⟨#[120]⟩).size := by rw [whole_size _ (by decide)]; decide
  exact ⟨_, rfl, whole_size _ (by decide), h, by rw [whole_get ⟨#[120]⟩ 0 (by decide) h]; rfl⟩

theorem On.keptOf {w w' : World} (h : On w.heap.size w w') : Kept w w' := ⟨h.below⟩

set_option maxHeartbeats 2000000 in
theorem awake_walk (w : World) : Calls Try.prog 9 #[] w fun e w' => e = .returned (.bool true) ∧ Kept w w' := by
  obtain ⟨sx, hsx, hsz, hpos, hx0⟩ := whole_x0
  have hnew := new_walk (B := 0) (w := w) 3 (by omega) (cuts_none 0 w) (Nat.zero_le _) (by simp) (by simp)
  obtain ⟨s0, hs0⟩ : ∃ s0, whole ⟨#[]⟩ = s0 := ⟨_, rfl⟩
  unfold Dk.new at hnew
  rw [hs0] at hnew
  have hwr : ∀ b g w1, w.heap.size ≤ w1.heap.size → DiskAt w.heap.size w1 b g ⟨List.replicate 3 ⟨s0, false, 0⟩, [], [], 0, 0, 0, false⟩ →
      Calls Try.prog 13 #[.pointer (some ⟨b, 0, none⟩), .int .i64 1, .string ⟨#[120]⟩] w1 fun e w' => e = .returned (.int .i64 0) ∧ DiskAt w.heap.size w' b g ⟨[⟨s0, false, 0⟩, ⟨s0, false, 1⟩, ⟨s0, false, 0⟩], [⟨1, sx⟩], [], 1, 1, 0, false⟩ ∧ On w.heap.size w1 w' := by
    intro b g w1 hB hD
    refine write_go hD hB rfl 1 (by simp) ⟨#[120]⟩ (by decide) 0 (d1 := ⟨[⟨s0, false, 0⟩, ⟨s0, false, 1⟩, ⟨s0, false, 0⟩], [⟨1, sx⟩], [], 0, 0, 0, false⟩) ?_ ?_
    · intro w2 hD2 hB2
      rw [hsx]
      have := wait_more hD2 hB2 ⟨1, sx⟩ (by simp) (by simp) (by simp) (by simp [Dk.fated])
      simpa using this
    · intro w2 hD2 hB2
      exact act_ok hD2 (by simp) (by simp) (by simp)
  have hrd : ∀ b g w1, w.heap.size ≤ w1.heap.size → DiskAt w.heap.size w1 b g ⟨[⟨s0, false, 0⟩, ⟨s0, false, 1⟩, ⟨s0, false, 0⟩], [⟨1, sx⟩], [], 1, 1, 0, false⟩ →
      Calls Try.prog 11 #[.pointer (some ⟨b, 0, none⟩), .int .i64 1] w1 fun e w' => e = .returned (.tuple #[.string sx, .int .i64 0]) ∧ On w.heap.size w1 w' := by
    intro b g w1 hB hD
    have := read_ok hD hB rfl 1 (by simp) (by simp) (act_ok hD (by simp) (by simp) (by simp)) (by simp) (by simp)
    refine this.mono ?_
    rintro e w' ⟨rfl, _, ho⟩
    exact ⟨rfl, ho⟩
  clear hs0 hsx
  go_enter Try.func9, Try.ntmps9
  go_wp2_with (first
    | (go_at_call 6; refine hnew.mono ?_; rintro e w1 ⟨b, g, rfl, hD1, hk1⟩)
    | (go_at_call 13; refine (hwr b g w1 hk1.size hD1).mono ?_; rintro e w2 ⟨rfl, hD2, ho2⟩; have hk2 : Kept w w2 := ((hk1.on (Nat.le_refl _)).trans ho2).keptOf)
    | (go_at_call 11; refine (hrd b g w2 hk2.size hD2).mono ?_; rintro e w3 ⟨rfl, ho3⟩; have hk3 : Kept w w3 := ((hk2.on (Nat.le_refl _)).trans ho3).keptOf))
  go_ret
  exact ⟨rfl, hk3⟩

theorem low (k m : Nat) (hk : k ≤ 10) (h1 : (BitVec.ofInt 64 (m : Int)).toNat = 2 ^ k - 1) (a : Int) : ∃ x : Nat, x < 2 ^ k ∧ bits .and .i64 a m = (x : Int) := by
  have key : (BitVec.ofInt 64 a &&& BitVec.ofInt 64 m).toNat = (a % ((2 ^ 64 : Nat) : Int)).toNat % 2 ^ k := by
    rw [BitVec.toNat_and, BitVec.toNat_ofInt, h1, Nat.and_two_pow_sub_one_eq_mod]
  have hp : 2 ^ k ≤ 2 ^ 10 := Nat.pow_le_pow_right (by decide) hk
  have hl := Nat.mod_lt (a % ((2 ^ 64 : Nat) : Int)).toNat (Nat.two_pow_pos k)
  refine ⟨(a % ((2 ^ 64 : Nat) : Int)).toNat % 2 ^ k, hl, ?_⟩
  show IntKind.i64.wrap ((BitVec.ofInt 64 a &&& BitVec.ofInt 64 m).toNat : Nat) = _
  rw [key, IntKind.wrap_i64]
  omega

theorem low10 (n : Int) : 0 ≤ bits .and .i64 n 1023 ∧ bits .and .i64 n 1023 < 1024 := by
  obtain ⟨x, h1, h2⟩ := low 10 1023 (by omega) (by decide) n
  have h2' : bits .and .i64 n 1023 = (x : Int) := h2
  rw [h2']; omega

set_option maxHeartbeats 2000000 in
theorem none_walk (n : Int) (s : ByteArray) (w : World) : Calls Try.prog 5 #[.int .i64 n, .string s] w fun e w' => e = .returned (.bool true) ∧ Kept w w' := by
  have hm := low10 n
  go_enter Try.func5, Try.ntmps5
  go_wp2_with (first
    | (go_at_call 17; refine up_nil.mono ?_; rintro e w' ⟨rfl, hw'⟩; rw [hw']; clear hw')
    | (go_at_call 11; refine (read_nil n).mono ?_; rintro e w' ⟨rfl, hw'⟩; rw [hw']; clear hw')
    | (go_at_call 6; refine (new_bad _ (by omega)).mono ?_; rintro e w' ⟨rfl, hw'⟩; rw [hw']; clear hw')
    | (go_at_call 9; refine (awake_walk w).mono ?_; rintro e w1 ⟨rfl, hk1⟩)
    | (go_at_call 13; refine (write_nil n s).mono ?_; rintro e w' ⟨rfl, hw'⟩; rw [hw']; clear hw')
    | (go_at_call 15; refine flush_nil.mono ?_; rintro e w' ⟨rfl, hw'⟩; rw [hw']; clear hw')
    | (go_at_call 19; refine dead_nil.mono ?_; rintro e w' ⟨rfl, hw'⟩; rw [hw']; clear hw')
    | (go_at_call 10; refine sectors_nil.mono ?_; rintro e w' ⟨rfl, hw'⟩; rw [hw']; clear hw')
    | (go_at_call 20; refine acts_nil.mono ?_; rintro e w' ⟨rfl, hw'⟩; rw [hw']; clear hw')
    | (go_at_call 21; refine fails_nil.mono ?_; rintro e w' ⟨rfl, hw'⟩; rw [hw']; clear hw'))
  go_ret
  exact ⟨rfl, hk1⟩
end Go.Proofs.Ytfnfdngenohhhaa
