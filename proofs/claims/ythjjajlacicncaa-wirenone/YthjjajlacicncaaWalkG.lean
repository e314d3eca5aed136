/- The walk of the law on numbers: it returns true for every two numbers of 64 bits, and all memory that was there is as it was. No condition else. -/
import Derived.Test.YthjjajlacicncaaWalkF
namespace Go.Proofs.Ythjjajlacicncaa
open Go.ChangeShapes Go.WideShapes Go.ChangeAt Go.RowKit

theorem On.more {w a b : World} (h : On w.heap.size w a) (k : Kept a b) : On w.heap.size w b := h.trans (k.on h.size)
theorem On.own {w a b : World} {c : Nat} (h : On w.heap.size w a) (k : On c a b) (hc : w.heap.size ≤ c) : On w.heap.size w b := h.trans (k.mono hc)
theorem On.kept {w a : World} (h : On w.heap.size w a) : Kept w a := ⟨h.out⟩
theorem Kept.on0 {w a : World} (h : Kept w a) : On w.heap.size w a := ⟨h.out⟩

/-- A number of 64 bits is a plain one. -/
theorem u64_nat {a : Int} (h : (Lit.int .u64 a).wf = true) : ∃ n : Nat, a = n ∧ n < 18446744073709551616 := by
  simp only [Lit.wf, IntKind.min, IntKind.max, IntKind.bits, IntKind.signed] at h
  refine ⟨a.toNat, ?_, ?_⟩ <;> (simp at h; omega)

/-- A token that an arm of a walk takes away. -/
structure Tok (k : Nat) : Prop where
  out : True

theorem rnum_in (n : Nat) (hn : n < 18446744073709551616) (most : Nat) (hm : n ≤ most) {b : Nat} {w : World} (k : Rd w b (bs (numL n)) 0) :
    Calls Try.prog 11 #[.pointer (some ⟨b, 0, none⟩), .int .u64 (most : Nat)] w fun e w' => e = .returned (.int .u64 (n : Nat)) ∧ Rd w' b ⟨#[]⟩ 0 ∧ On b w w' :=
  rnum_walk n hn [] (by simp) most hm (by rw [List.append_nil]; exact k)

theorem rover_in (n : Nat) (hn : n < 18446744073709551616) (most : Nat) (hm : most < n) {b : Nat} {w : World} (k : Rd w b (bs (numL n)) 0) :
    Calls Try.prog 11 #[.pointer (some ⟨b, 0, none⟩), .int .u64 (most : Nat)] w fun e w' => e = .returned (.int .u64 0) ∧ Rd w' b ⟨#[]⟩ 4 ∧ On b w w' :=
  rnum_over n hn [] (by simp) most hm (by rw [List.append_nil]; exact k)

theorem left_none {b : Nat} {x : Int} {w : World} (k : Rd w b ⟨#[]⟩ x) : Calls Try.prog 14 #[.pointer (some ⟨b, 0, none⟩)] w fun e w' => e = .returned (.int .i64 0) ∧ w' = w := left_walk k

set_option maxRecDepth 100000 in
set_option maxHeartbeats 1000000 in
theorem nums_walk (n : Nat) (hn : n < 18446744073709551616) (most : Nat) (w : World) :
    Calls Try.prog 3 #[.int .u64 (n : Nat), .int .u64 (most : Nat)] w fun e w' => e = .returned (.bool true) ∧ Kept w w' := by
  have h10 := num_walk n hn
  have h15 := refnum_walk n hn
  have T1 : Tok 1 := ⟨trivial⟩
  by_cases h : n ≤ most
  · have h11 := @rnum_in n hn most h
    generalize bs (numL n) = s at *
    clear hn
    go_enter Try.func3, Try.ntmps3
    go_wp2_with (first
      | (go_at_call 10; have := T1; refine (h10 _).mono ?_; rintro e w1 ⟨rfl, hk1⟩; clear this T1)
      | (go_at_call 9; refine (new_walk _ _).mono ?_; rintro e w2 ⟨rfl, k2, hk2⟩)
      | (go_at_call 11; refine (h11 k2).mono ?_; rintro e w3 ⟨rfl, k3, o3⟩)
      | (go_at_call 12; refine (awake_walk _).mono ?_; rintro e w4 ⟨rfl, hk4⟩)
      | (go_at_call 10; refine (h10 _).mono ?_; rintro e w5 ⟨rfl, hk5⟩)
      | (go_at_call 15; refine (h15 _).mono ?_; rintro e w6 ⟨rfl, hk6⟩)
      | (go_at_call 16; refine (end_walk (hk6.rd (hk5.rd (hk4.rd k3)))).mono ?_; rintro e w7 ⟨rfl, rfl⟩))
    go_ret
    exact ⟨rfl, (((((hk1.on0.more hk2).own o3 hk1.size).more hk4).more hk5).more hk6).kept⟩
  · have h11 := @rover_in n hn most (by omega)
    have hlt : most < n := by omega
    generalize bs (numL n) = s at *
    clear hn
    go_enter Try.func3, Try.ntmps3
    go_wp2_with (first
      | (go_at_call 10; refine (h10 _).mono ?_; rintro e w1 ⟨rfl, hk1⟩)
      | (go_at_call 9; refine (new_walk _ _).mono ?_; rintro e w2 ⟨rfl, k2, hk2⟩)
      | (go_at_call 11; refine (h11 k2).mono ?_; rintro e w3 ⟨rfl, k3, o3⟩)
      | (go_at_call 12; refine (awake_walk _).mono ?_; rintro e w4 ⟨rfl, hk4⟩)
      | (go_at_call 13; refine (err_walk (hk4.rd k3)).mono ?_; rintro e w5 ⟨rfl, rfl⟩)
      | (go_at_call 14; refine (left_none (hk4.rd k3)).mono ?_; rintro e w6 ⟨rfl, rfl⟩))
    go_ret
    exact ⟨rfl, (((hk1.on0.more hk2).own o3 hk1.size).more hk4).kept⟩
end Go.Proofs.Ythjjajlacicncaa
