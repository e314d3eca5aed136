/- What is proved: keywaylaw01.CrcJoins returns true for all strings (each cut to 600 bytes): crc.Join of two checks and the second one's length is the check of both, one behind the other, and with a number below 1 it is the first check; the arguments read as they did. Conditions: none beyond those that the given statement bears. -/
import Derived.Test.YtidikhagpdfbcaaWalkC
import Derived.Test.YtidikhagpdfbcaaJoin
import Derived.Test.YtidikhagpdfbcaaWalkD
import Derived.Test.YtidikhagpdfbcaaRows
import Derived.WalkKit
import Derived.ProofKit
import Derived.OpenShut
import Derived.ShutString
namespace Go.Proofs.Ytidikhagpdfbcaa.crcJoins
open Go.ChangeShapes Go.WideShapes Go.ChangeAt Go.RowKit
open Go.ChangeMaps (open_string shut_string)
open Chk
set_option linter.unusedVariables false

theorem own : ownKnob Try.prog.godebug = none := by kernel_rfl

theorem walk (a0 : ByteArray) (a1 : ByteArray) (w0 : a0.size ≤ maxLen) (w1 : a1.size ≤ maxLen) (w : World) :
    Calls Try.prog 5 #[.string a0, .string a1] w fun e w' => e = .returned (.bool true) ∧ Grown w w' := by
  have hf0 : (few a0).size ≤ maxLen := by have := few_size a0; unfold maxLen; omega
  have hf1 : (few a1).size ≤ maxLen := by have := few_size a1; unfold maxLen; omega
  have hs0 : (few a0).size ≤ 600 := few_size a0
  have hs1 : (few a1).size ≤ 600 := few_size a1
  have hab : (few a0 ++ few a1).size ≤ maxLen := by rw [ByteArray.size_append]; unfold maxLen; omega
  have hc0 : check (byte (few a0)) (few a0).size < 4294967296 := check_lt (byte_lt _) _
  have hc1 : check (byte (few a1)) (few a1).size < 4294967296 := check_lt (byte_lt _) _
  have o0 := of_walk (few a0) hf0
  have o1 := of_walk (few a1) hf1
  have rr := ref_walk (few a0 ++ few a1) hab
  have hj : ∀ w : World, Calls Try.prog 12 #[.int .u32 (check (byte (few a0)) (few a0).size : Nat), .int .u32 (check (byte (few a1)) (few a1).size : Nat), .int .i64 ((few a1).size : Nat)] w
      fun e w' => e = .returned (.int .u32 (check (byte (few a0 ++ few a1)) (few a0 ++ few a1).size : Nat)) ∧ w' = w := by
    intro w
    rw [← join_check]
    by_cases hz : (few a1).size = 0
    · have h0 : check (byte (few a1)) 0 = 0 := by unfold check run; exact Nat.xor_self _
      rw [hz, h0]
      simp only [It, Nat.xor_zero]
      exact join_none _ _ _ (by omega) w
    · exact join_walk _ _ _ hc0 hc1 (by omega) (by omega) w
  have hlen : (a1.size : Int) ≤ 9223372036854775807 := by unfold maxLen at w1; omega
  generalize check (byte (few a0)) (few a0).size = c0 at *
  generalize check (byte (few a1)) (few a1).size = c1 at *
  generalize check (byte (few a0 ++ few a1)) (few a0 ++ few a1).size = c2 at *
  clear hc0 hc1
  have tok1 : True := trivial
  have tok2 : True := trivial
  go_enter Try.func5, Try.ntmps5
  go_wp2_with (first
    | (go_at_call 7; refine (awake_walk _).mono ?_; rintro e v1 ⟨rfl, hg1⟩)
    | (go_at_call 9; refine (few_walk _ (by assumption) _).mono ?_; rintro e v2 ⟨rfl, rfl⟩)
    | (go_at_call 8; have _t := tok1; refine (o0 _).mono ?_; rintro e v3 ⟨rfl, hg3⟩; clear tok1)
    | (go_at_call 8; refine (o1 _).mono ?_; rintro e v4 ⟨rfl, hg4⟩)
    | (go_at_call 12; have _t := tok2; refine (hj _).mono ?_; rintro e v5 ⟨rfl, rfl⟩; clear tok2)
    | (go_at_call 12; refine (join_none _ _ _ (by omega) _).mono ?_; rintro e v5 ⟨rfl, rfl⟩)
    | (go_at_call 10; refine (rr _).mono ?_; rintro e v6 ⟨rfl, rfl⟩))
  go_ret
  exact ⟨rfl, Grown.trans hg3 (Grown.trans hg1 hg4)⟩
set_option maxRecDepth 100000 in
theorem lifted (os : Os) (started : os.Started) (H : Type) (enc : TypeId × Value → H) :
    ReturnsInHanded {} Try.checked os 5 .any (Rows.crcJoinsSpec.pre6 enc Try.prog Try.f5 Rows.crcJoinsRow.domain false) (Rows.crcJoinsSpec.post enc Try.prog Try.f5 false true false false) := by
  refine returnsInHanded_of_change (C := Try.checked) own started (by kernel_rfl) Try.func5
    (ChangeSpec.witness6 (enc := enc) (C := Try.checked) false ⟨#[], #[.string ByteArray.empty, .string ByteArray.empty], []⟩ 8 (by kernel_rfl) (by kernel_rfl) (by kernel_rfl) (by kernel_rfl)) ?_
  intro W base args ds gs before hval0 hW hcnd _
  have hval : ∀ (j : Nat) t v, Try.f5.params[j]? = some t → args[j]? = some v → Value.okWide Try.prog W .any base t v := hval0
  have hW' := hW
  obtain ⟨p, q, hA0, hV, rfl, hfz, hnd⟩ := hW
  have hA : DataW.TrodAll enc Try.prog W 0 (fun _ => true) true Try.f5.params.toList args.toList ds p := hA0
  rw [Try.params5] at hA hval
  obtain ⟨v0, vs0, d0, ds0, p0, q0, hargs, rfl, rfl, h0, r0⟩ := trodAll_cons hA
  obtain ⟨v1, vs1, d1, ds1, p1, q1, rfl, rfl, rfl, h1, r1⟩ := trodAll_cons r0
  obtain ⟨rfl, rfl, rfl⟩ := trodAll_nil r1
  obtain rfl : args = #[v0, v1] := by cases args; simp_all
  obtain ⟨rfl, rfl⟩ := trodVars_none hV
  obtain ⟨a0, rfl, rfl, rfl, w0⟩ := open_string Try.underlying9 (hval 0 9 v0 rfl rfl) h0
  obtain ⟨a1, rfl, rfl, rfl, w1⟩ := open_string Try.underlying9 (hval 1 9 v1 rfl rfl) h1
  clear hA0 hval0
  simp only [List.append_nil] at hW'
  refine (walk a0 a1 w0 w1 W).mono fun e W' ⟨he, hg⟩ => ?_
  subst he
  exact ⟨_, rfl, post_of_same (pa := []) (pv := []) hW' (fun _ _ _ => (trodAll_cons_mk (shut_bool Try.underlying4 _) trodAll_mk0)) (fun sp _ => (trodAll_cons_mk (shut_string Try.underlying9 w0) (trodAll_cons_mk (shut_string Try.underlying9 w1) trodAll_mk0))) (fun _ _ => rfl) rfl
    (hg.frame _) hg.2.1 (ok_one (by kernel_rfl) rfl (okWide_bool_mk Try.underlying4 _))⟩

theorem over : Rows.crcJoinsRow.holds Try.pinned (OpenSpec.ofChange Rows.crcJoinsSpec) :=
  OpenClaim.holds_of_wide 5 Try.f5 rfl rfl rfl rfl rfl rfl rfl ⟨rfl, rfl, rfl, rfl, rfl⟩ rfl rfl rfl rfl rfl (by kernel_rfl) Try.func5 (by kernel_rfl)
    (of_decide_eq_true (by kernel_rfl)) (by unfold Func.isWrapper; first | (rw [if_pos (by decide +kernel)]; kernel_rfl) | (rw [if_neg (by decide +kernel)]; exact ⟨rfl, rfl⟩))
    (fun os started H enc _ => lifted os started H enc)

theorem proved : Rows.CrcJoinsSaid :=
  over
end Go.Proofs.Ytidikhagpdfbcaa.crcJoins

namespace Go.Proofs.Ytidikhagpdfbcaa
theorem crcJoins_holds : Rows.CrcJoinsSaid := crcJoins.proved
#print axioms crcJoins_holds
end Go.Proofs.Ytidikhagpdfbcaa
