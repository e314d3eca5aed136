/- The walks of wire.Num and of the reference's Num: each returns the bytes of a number; all memory that was there is as it was. Conditions: a number is one of 64 bits. -/
import Derived.Test.YthlhnjjofefgcaaGreatDoorPWalkD
import Derived.Test.YthlhnjjofefgcaaGreatDoorPNum
import Derived.Deep.RegionWith
namespace Go.Proofs.YthlhnjjofefgcaaGreatDoor.P
open Go.ChangeShapes Go.WideShapes Go.ChangeAt Go.RowKit

theorem or128 (x : Nat) (h : x < 256) : bits .or .u8 (x : Int) 128 = ((128 + x % 128 : Nat) : Int) := by
  have key : ∀ y : Fin 256, bits .or .u8 ((y.val : Nat) : Int) 128 = ((128 + y.val % 128 : Nat) : Int) := by decide +kernel
  exact key ⟨x, h⟩

set_option maxRecDepth 100000 in
set_option maxHeartbeats 1000000 in
theorem num_walk (n0 : Nat) (hn0 : n0 < 18446744073709551616) (w : World) :
    Calls Tryz.prog 84 #[.int .u64 n0] w fun e w' => e = .returned (.string (bs (numL n0))) ∧ Kept w w' := by
  obtain ⟨i0, hi, hz0, hz1, hz2⟩ := info_parts info5
  have H10 := numL_ten n0 hn0
  go_enter Tryz.func84, Tryz.ntmps84
  go_wp2
  go_loopg [0, 3] n0 (fun g nv v wx => ∃ done n, numL n0 = done ++ numL n ∧ n = g ∧ n < 18446744073709551616 ∧ nv = .int .u64 (n : Nat) ∧ wx.ownsRow w.heap.size 5 1 v done.length (cellsOf done) ∧ Kept w wx)
  case atStart => exact ⟨[], n0, rfl, rfl, hn0, rfl, World.ownsRow_nil _ _ _ _, Kept.refl _⟩
  case round =>
    obtain ⟨done, n, hl, hg, hn, rfl, hown, hk⟩ := hrel
    obtain ⟨p, cap, rfl⟩ := owns_shape hown
    have hd : done.length ≤ 10 := by rw [hl] at H10; simp at H10; omega
    have HL : Hid (numL n0 = done ++ numL n) := hl
    have HG : Hid (n = gk) := hg
    have HO : Hid (wr.ownsRow w.heap.size 5 1 (.slice p done.length cap) done.length (cellsOf done)) := hown
    clear hl hg hown H10
    by_cases h : n < 128
    · go_wp2_with (at_builtin; refine wpList_append_own _ rfl _ _ 63 rfl w.heap.size 5 i0 (.int .u8 0) 1 1 Tryz.underlying63 hi hz0 hz1 hz2 rfl (by decide) (.slice p done.length cap) done.length (cellsOf done) rfl ?c0 _ 1 1 [.int .u8 (n : Int)] rfl rfl ?c1 ?c2 ?c3 ?c4 ?c5 ?_)
      case c0 => exact HO.out.alloc _
      case c1 => exact one_cell _ _ _
      case c2 => exact one_one _ _
      case c3 => unfold maxLen; omega
      case c4 => omega
      case c5 => have := hk.size; simp; omega
      intro v' w1 hown1 hgrow _
      have hk1 : Kept w w1 := below_own hk HO.out ((Kept.refl wr).alloc _) hgrow
      have tx : (convert 63 9 v').run Tryz.prog w1 = .ok (.string (bs (done ++ [n]))) w1 := own_text (by simpa [cellsOf] using hown1)
      clear hgrow hi hz0 hz1 hz2 hown1
      go_wp2
      go_ret
      refine ⟨?_, hk1⟩
      rw [HL.out, numL_last h]; rfl
    · have e1 : bits .or .u8 ((n : Int) % 256) 128 = ((128 + n % 128 : Nat) : Int) := by
        have := or128 (n % 256) (by omega)
        rw [Nat.mod_mod_of_dvd n (by decide : 128 ∣ 256)] at this
        exact this
      go_wp2_with (at_builtin; refine wpList_append_own _ rfl _ _ 63 rfl w.heap.size 5 i0 (.int .u8 0) 1 1 Tryz.underlying63 hi hz0 hz1 hz2 rfl (by decide) (.slice p done.length cap) done.length (cellsOf done) rfl ?c0 _ 1 1 [.int .u8 ((128 + n % 128 : Nat) : Int)] rfl rfl ?c1 ?c2 ?c3 ?c4 ?c5 ?_)
      case c0 => exact HO.out.alloc _
      case c1 => exact one_cell _ _ _
      case c2 => exact one_one _ _
      case c3 => unfold maxLen; omega
      case c4 => omega
      case c5 => have := hk.size; simp; omega
      intro v' w1 hown1 hgrow _
      have hk1 : Kept w w1 := below_own hk HO.out ((Kept.refl wr).alloc _) hgrow
      clear hgrow hi hz0 hz1 hz2
      have H1 : Hid (w1.ownsRow w.heap.size 5 1 v' (done.length + 1) (cellsOf done ++ [.int .u8 ((128 + n % 128 : Nat) : Int)])) := hown1
      clear hown1
      go_wp2
      go_roundg (n / 128)
      case measure => have := HG.out; omega
      case rel =>
        refine ⟨done ++ [128 + n % 128], n / 128, by rw [HL.out, numL_more h]; simp, rfl, by omega, by go_num, ?_, hk1⟩
        have := H1.out
        simpa [cellsOf] using this

/-- A block that begins with this byte. -/
structure One (w : World) (b : Nat) (x : Int) : Prop where
  out : w.cell? ⟨b, 0, none⟩ = some (.int .u8 x)

theorem Kept.one {w w' : World} (h : Kept w w') (b : Nat) (x : Int) (k : One w b x) : One w' b x :=
  ⟨(h.out.cell (World.block_lt_of_cell? w _ k.out)).trans k.out⟩

theorem One.alloc (w : World) (x : Int) : One (w.alloc (.cells #[.int .u8 x] 5)) w.heap.size x := ⟨by simp⟩

theorem One.drew (w : World) (b : Nat) (x : Int) (h : One w b x) : One w.drew b x := (Kept.refl w).drew.one b x h

theorem One.text {w : World} {b : Nat} {x : Int} (h : One w b x) (h0 : 0 ≤ x) :
    (convert 63 9 (.slice (some ⟨b, 0, none⟩) 1 1)).run Tryz.prog w = .ok (.string (bs [x.toNat])) w := by
  rw [run_convert_bytes_arg w 63 5 Tryz.underlying63 Tryz.underlying5 b 0 1 1 [x] rfl (fun i hi => ?_) 9 Tryz.underlying9]
  · have : strOfNums [x] = bs [x.toNat] := by rw [← strOf]; simp; congr 1; simp; omega
    rw [this]
  · obtain rfl : i = 0 := by omega
    exact h.out

theorem Kept.drewN1 (w : World) : Kept w w.drew := (Kept.refl w).drew

end Go.Proofs.YthlhnjjofefgcaaGreatDoor.P
