/- The walks of wire.within, wire.Fixed and the reference's Fixed. Conditions: numbers are ones of 64 bits. -/
import Derived.Test.YthlhnjjofefgcaaGreatDoorPMem
namespace Go.Proofs.YthlhnjjofefgcaaGreatDoor.P
open Go.ChangeShapes Go.WideShapes Go.ChangeAt Go.RowKit

/-- How many bytes are meant. -/
def kOf (q : Int) : Nat := (min (max q 0) 8).toNat

theorem kOf_eq (q : Int) : min (max q 0) 8 = (kOf q : Int) := by unfold kOf; omega
theorem kOf_le (q : Int) : kOf q ≤ 8 := by unfold kOf; omega

theorem within_walk (q : Int) (w : World) : Calls Tryz.prog 88 #[.int .i64 q] w fun e w' => e = .returned (.int .i64 (kOf q : Nat)) ∧ w' = w := by
  have h1 : q < 0 → ((kOf q : Nat) : Int) = 0 := by unfold kOf; omega
  have h2 : 8 < q → ((kOf q : Nat) : Int) = 8 := by unfold kOf; omega
  have h3 : 0 ≤ q → q ≤ 8 → ((kOf q : Nat) : Int) = q := by unfold kOf; omega
  have H : Hid ((q < 0 → ((kOf q : Nat) : Int) = 0) ∧ (8 < q → ((kOf q : Nat) : Int) = 8) ∧ (0 ≤ q → q ≤ 8 → ((kOf q : Nat) : Int) = q)) := ⟨h1, h2, h3⟩
  clear h1 h2 h3
  generalize ((kOf q : Nat) : Int) = k at H
  go_enter Tryz.func88, Tryz.ntmps88
  go_wp2
  all_goals go_ret
  all_goals refine ⟨?_, rfl⟩
  all_goals obtain ⟨h1, h2, h3⟩ := H.out
  all_goals first | rw [h1 (by omega)] | rw [h2 (by omega)] | rw [h3 (by omega) (by omega)]
  all_goals rfl

set_option maxRecDepth 100000 in
set_option maxHeartbeats 1000000 in
theorem fixed_walk (n : Nat) (hn : n < 18446744073709551616) (q : Int) (w : World) :
    Calls Tryz.prog 71 #[.int .u64 (n : Nat), .int .i64 q] w fun e w' => e = .returned (.string (bs (fixL n (kOf q)))) ∧ Kept w w' := by
  obtain ⟨i0, hi, hz0, hz1, hz2⟩ := info_parts info5
  have h36 := within_walk q
  have hk8 := kOf_le q
  generalize kOf q = k at *
  go_enter Tryz.func71, Tryz.ntmps71
  go_wp2_with (go_at_call 88; refine (h36 _).mono ?_; rintro e w ⟨rfl, rfl⟩)
  go_loopg [0, 5, 8] k (fun g nv v iv wx => ∃ (done : List Nat) (m : Nat), fixL n k = done ++ fixL m g ∧ done.length + g = k ∧ m < 18446744073709551616 ∧ nv = .int .u64 (m : Nat) ∧ iv = .int .i64 (done.length : Nat) ∧ wx.ownsRow w.heap.size 5 1 v done.length (cellsOf done) ∧ Kept w wx)
  case atStart => exact ⟨[], n, rfl, by simp, hn, rfl, rfl, World.ownsRow_nil _ _ _ _, Kept.refl _⟩
  case round =>
    obtain ⟨done, m, hl, hg, hm, rfl, rfl, hown, hk⟩ := hrel
    have HL : Hid (fixL n k = done ++ fixL m gk) := hl
    clear hl
    cases gk with
    | zero =>
      have tx := own_text hown
      have hdk : done.length = k := by omega
      clear hown hg
      go_wp2
      go_ret
      refine ⟨?_, hk⟩
      rw [HL.out]; simp [fixL]
    | succ g =>
      obtain ⟨p, cap, rfl⟩ := owns_shape hown
      have HO : Hid (wr.ownsRow w.heap.size 5 1 (.slice p done.length cap) done.length (cellsOf done)) := hown
      have hdk : done.length < k := by omega
      have HG : Hid (done.length + (g + 1) = k) := hg
      have hd8 : done.length ≤ 8 := by omega
      clear hown hg
      go_wp2_with (at_builtin; refine wpList_append_own _ rfl _ _ 63 rfl w.heap.size 5 i0 (.int .u8 0) 1 1 Tryz.underlying63 hi hz0 hz1 hz2 rfl (by decide) (.slice p done.length cap) done.length (cellsOf done) rfl ?c0 _ 1 1 [.int .u8 ((m : Int) % 256)] rfl rfl ?c1 ?c2 ?c3 ?c4 ?c5 ?_)
      case c0 => exact HO.out.alloc _
      case c1 => exact one_cell _ _ _
      case c2 => exact one_one _ _
      case c3 => unfold maxLen; omega
      case c4 => omega
      case c5 => have := hk.size; simp; omega
      intro v' w1 hown1 hgrow _
      have hk1 : Kept w w1 := below_own hk HO.out ((Kept.refl wr).alloc _) hgrow
      clear hgrow hi hz0 hz1 hz2
      have H2 : Hid (w1.ownsRow w.heap.size 5 1 v' (done.length + 1) (cellsOf done ++ [.int .u8 ((m : Int) % 256)])) := hown1
      clear hown1
      go_wp2
      go_roundg g
      case measure => omega
      case rel =>
        refine ⟨done ++ [m % 256], m / 256, ?_, ?_, by omega, by go_num, ?_, ?_, hk1⟩
        · rw [HL.out, fixL]; simp
        · have := HG.out; simp; omega
        · simp
        · have := H2.out
          simpa [cellsOf] using this

end Go.Proofs.YthlhnjjofefgcaaGreatDoor.P
