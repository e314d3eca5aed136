/- The walk of the law on no queue. Conditions: a number is one of 64 bits. -/
import Derived.Laws.Bits64b
import Derived.Test.YtabbfoaojmhajaaQP
namespace Go.Proofs.Ytabbfoaojmhajaa.Q
open Go.ChangeShapes Go.WideShapes Go.ChangeAt Go.RowKit
open N (Kept bs numL keyL Small Rd On)

theorem new_at (w : World) (x : Nat) (h : x < 256) : Qx ((w.alloc (.cells #[.slice none 0 0, .slice none 0 0] 26)).alloc (.cells #[.iface 23 (.pointer (some ⟨w.heap.size, 0, none⟩)), .string (bs [x])] 51)) w.heap.size (w.heap.size + 1) w.heap.size 0 [x] [] (fun _ => none) := by
  have := qx_new (kv_new w) (by omega) ((Kept.refl w).alloc _).size (Qf.nil (small1 h)) (by simp)
  rw [size_alloc] at this
  exact this

theorem mask_nat (n k m : Nat) (hn : n < 18446744073709551616) (hm : m < 18446744073709551616) (e : m = 2 ^ k - 1) : bits .and .u64 (n : Int) (m : Int) = ((n % 2 ^ k : Nat) : Int) := by
  rw [bits_and_u64_nat n m hn hm, e, Nat.and_two_pow_sub_one_eq_mod]

set_option maxRecDepth 100000 in
set_option maxHeartbeats 1000000 in
theorem none_law (n : Nat) (hn : n < 18446744073709551616) (w : World) : Calls Try.prog 5 #[.int .u64 (n : Nat)] w fun e w' => e = .returned (.bool true) ∧ Kept w w' := by
  have h1 := fun W => push_fail (n : Nat) (load_nil W)
  have h2 := fun W => pop_fail (load_nil W)
  have h3 := fun W => len_fail (load_nil W)
  have h4 := fun W => has_fail (n : Nat) (load_nil W)
  have T1 : Tok 1 := ⟨trivial⟩
  obtain ⟨z, hz⟩ : ∃ z, z = 4611686018427387905 + n % 1024 := ⟨_, rfl⟩
  have hz1 : 4611686018427387904 < z := by omega
  have hz2 : z < 18446744073709551616 := by omega
  have u1 : IntKind.u64.wrap (4611686018427387905 + bits .and .u64 (n : Int) 1023) = (z : Int) := by
    have : bits .and .u64 (n : Int) 1023 = ((n % 1024 : Nat) : Int) := mask_nat n 10 1023 hn (by omega) rfl
    rw [this, IntKind.wrap_u64]; omega
  have HZ : Hid (4611686018427387904 < z ∧ z < 18446744073709551616) := ⟨hz1, hz2⟩
  clear hz hz1 hz2 hn
  go_enter Try.func5, Try.ntmps5
  go_wp2_with (first
    | (go_at_call 10; have := T1; (with_reducible refine (h1 _).mono ?_); rintro e w1 ⟨rfl, k1⟩; have K1 : Hid (Kept w w1) := k1; clear k1 this T1)
    | (go_at_call 12; (with_reducible refine (h2 _).mono ?_); rintro e w2 ⟨rfl, k2⟩; have K2 : Hid (Kept w w2) := K1.out.trans k2; clear k2)
    | (go_at_call 13; (with_reducible refine (h3 _).mono ?_); rintro e w3 ⟨rfl, k3⟩; have K3 : Hid (Kept w w3) := K2.out.trans k3; clear k3)
    | (go_at_call 14; (with_reducible refine (h4 _).mono ?_); rintro e w4 ⟨rfl, k4⟩; have K4 : Hid (Kept w w4) := K3.out.trans k4; have hnew := new_nil ⟨#[120]⟩ w4; clear k4)
    | (go_at_call 6; (with_reducible refine hnew.mono ?_); rintro e w5 ⟨rfl, hw5⟩; have K5 : Hid (Kept w w5) := (by (show Kept w w5); rw [hw5]; exact K4.out.alloc _); have hp5 := push_fail (n : Nat) (load_nokv (w := w5) (a := w4.heap.size) (s := ⟨#[120]⟩) (by rw [hw5]; exact heap_alloc_new w4 _)); clear hw5 hnew)
    | (go_at_call 10; (with_reducible refine hp5.mono ?_); rintro e w6 ⟨rfl, k6⟩; have K6 : Hid (Kept w w6) := K5.out.trans k6; clear k6 hp5)
    | (go_at_call 6; (with_reducible refine (new_walk _ _ _ _).mono ?_); rintro e w7 ⟨rfl, hw7⟩; have K7 : Hid (Kept w w7) := (by (show Kept w w7); rw [hw7]; exact (K6.out.alloc _).alloc _); have sz := size_alloc w6 (.cells #[.slice none 0 0, .slice none 0 0] 26); have X7 : Hid (Qx w7 w6.heap.size (w6.heap.size + 1) w6.heap.size 0 [120] [] (fun _ => none)) := (by (show Qx w7 _ _ _ _ _ _ _); rw [hw7]; exact new_at w6 120 (by omega)); have h8 := X7.out.great z HZ.out.1 HZ.out.2; clear hw7)
    | (go_at_call 10; (with_reducible refine h8.mono ?_); rintro e w8 ⟨rfl, k8⟩; have K8 : Hid (Kept w w8) := K7.out.trans k8; clear k8 h8)
    | (go_at_call 7; (with_reducible refine (awake_walk _).mono ?_); rintro e w9 ⟨rfl, k9⟩; have K9 : Hid (Kept w w9) := K8.out.trans k9; clear k9))
  go_ret
  exact ⟨rfl, K9.out⟩
end Go.Proofs.Ytabbfoaojmhajaa.Q
