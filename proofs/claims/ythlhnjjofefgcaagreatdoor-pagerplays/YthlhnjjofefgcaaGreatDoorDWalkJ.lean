/- The walks of Write, given what wait and act do, of awake, and of the law on no disk. Conditions: those of wait and act; a text of at most 256 bytes. -/
import Derived.Test.YthlhnjjofefgcaaGreatDoorDWalkI
namespace Go.Proofs.YthlhnjjofefgcaaGreatDoor.D
open Go.ChangeShapes Go.WideShapes Go.ChangeAt Go.RowKit

set_option maxHeartbeats 2000000 in
theorem write_go {B : Nat} {w : World} {b g : Nat} {d d1 d2 : Dk} (h : DiskAt B w b g d) (hB : B ≤ w.heap.size) (hd : d.dead = false) (n : Nat) (hn : n < d.secs.length) (s : ByteArray) (hs : s.size ≤ 256) (code : Int)
    (hwa : ∀ w1, DiskAt B w1 b g d → B ≤ w1.heap.size → Calls Tryz.prog 63 #[.pointer (some ⟨b, 0, none⟩), (Wr.mk n (whole s)).val] w1 fun e w2 => e = .returned (.tuple #[]) ∧ DiskAt B w2 b g d1 ∧ On B w1 w2)
    (hact : ∀ w1, DiskAt B w1 b g d1 → B ≤ w1.heap.size → Calls Tryz.prog 64 #[.pointer (some ⟨b, 0, none⟩)] w1 fun e w2 => e = .returned (.int .i64 code) ∧ DiskAt B w2 b g d2 ∧ On B w1 w2) :
    Calls Tryz.prog 41 #[.pointer (some ⟨b, 0, none⟩), .int .i64 (n : Nat), .string s] w fun e w' => e = .returned (.int .i64 code) ∧ DiskAt B w' b g d2 ∧ On B w w' := by
  have hw := dead_walk h
  rw [hd] at hw
  have hh := has_walk h (n : Int)
  rw [decide_eq_true (by omega)] at hh
  have hss : decide ((256 : Int) < (s.size : Int)) = false := by simp; omega
  unfold Wr.val at hwa
  go_enter Tryz.func41, Tryz.ntmps41
  go_wp2_with (first
    | (go_at_call 61; refine hw.mono ?_; rintro e w' ⟨rfl, hw'⟩; rw [hw']; clear hw')
    | (go_at_call 62; refine hh.mono ?_; rintro e w' ⟨rfl, hw'⟩; rw [hw']; clear hw')
    | (go_at_call 38; refine (whole_walk s hs _).mono ?_; rintro e w1 ⟨rfl, hk1⟩)
    | (go_at_call 63; refine (hwa w1 (hk1.dk h) (Nat.le_trans hB hk1.size)).mono ?_; rintro e w2 ⟨rfl, hd2, ho2⟩; have ho20 := (hk1.on hB).trans ho2)
    | (go_at_call 64; refine (hact w2 hd2 (Nat.le_trans hB ho20.size)).mono ?_; rintro e w3 ⟨rfl, hd3, ho3⟩))
  go_ret
  exact ⟨rfl, hd3, ho20.trans ho3⟩

theorem cuts_none (B : Nat) (w : World) : CutsAt B w (.slice none 0 0) [] := ⟨none, 0, rfl, Nat.le_refl _, Nat.zero_le _, fun j hj => absurd hj (by simp)⟩

theorem whole_get (s : ByteArray) (i : Nat) (hi : i < s.size) (h : i < (whole s).size) : (whole s)[i] = s[i] := by
  have hi' : i < s.data.size := hi
  exact Array.getElem_append_left (xs := s.data) (ys := Array.replicate (256 - s.size) 0) hi'

theorem whole_x0 : ∃ s0, whole ⟨#[120]⟩ = s0 ∧ s0.size = 256 ∧ ∃ h : 0 < s0.size, (s0[0]'h).toNat = 120 := by
  have h : 0 < (whole ⟨#[120]⟩).size := by rw [whole_size _ (by decide)]; decide
  exact ⟨_, rfl, whole_size _ (by decide), h, by rw [whole_get ⟨#[120]⟩ 0 (by decide) h]; rfl⟩

theorem On.keptOf {w w' : World} (h : On w.heap.size w w') : Kept w w' := ⟨h.below⟩

theorem low (k m : Nat) (hk : k ≤ 10) (h1 : (BitVec.ofInt 64 (m : Int)).toNat = 2 ^ k - 1) (a : Int) : ∃ x : Nat, x < 2 ^ k ∧ bits .and .i64 a m = (x : Int) := by
  have key : (BitVec.ofInt 64 a &&& BitVec.ofInt 64 m).toNat = (a % ((2 ^ 64 : Nat) : Int)).toNat % 2 ^ k := by
    rw [BitVec.toNat_and, BitVec.toNat_ofInt, h1, Nat.and_two_pow_sub_one_eq_mod]
  have hp : 2 ^ k ≤ 2 ^ 10 := Nat.pow_le_pow_right (by decide) hk
  have hl := Nat.mod_lt (a % ((2 ^ 64 : Nat) : Int)).toNat (Nat.two_pow_pos k)
  refine ⟨(a % ((2 ^ 64 : Nat) : Int)).toNat % 2 ^ k, hl, ?_⟩
  show IntKind.i64.wrap ((BitVec.ofInt 64 a &&& BitVec.ofInt 64 m).toNat : Nat) = _
  rw [key, IntKind.wrap_i64]
  omega

theorem low10 (n : Int) : 0 ≤ bits .and .i64 n 1023 ∧ bits .and .i64 n 1023 < 1024 := by
  obtain ⟨x, h1, h2⟩ := low 10 1023 (by omega) (by decide) n
  have h2' : bits .and .i64 n 1023 = (x : Int) := h2
  rw [h2']; omega

end Go.Proofs.YthlhnjjofefgcaaGreatDoor.D
