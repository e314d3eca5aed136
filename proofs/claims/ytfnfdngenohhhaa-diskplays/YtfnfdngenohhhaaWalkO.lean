/- The walk of the law that what was flushed is there: it returns true; all memory that was there is as it was. Conditions: fates are in memory that was there, and take at most 2^47 bytes. -/
import Derived.Test.YtfnfdngenohhhaaWalkN
namespace Go.Proofs.Ytfnfdngenohhhaa
open Go.ChangeShapes Go.WideShapes Go.ChangeAt Go.RowKit

theorem cut_one {B : Nat} {w : World} {g : Nat} {x : Int} {vf : Value} {l : List Int} (hg : w.heap[g]? = some (.cells #[.int .i64 x, vf] 53)) (h : FatesAt B w vf l) : CutsAt B w (.slice (some ⟨g, 0, none⟩) 1 1) [⟨x, l⟩] := by
  refine ⟨_, _, rfl, Nat.le_refl _, by unfold maxLen; omega, fun j hj => ?_⟩
  have hj0 : j = 0 := by simpa using hj
  subst hj0
  exact ⟨g, 0, vf, rfl, .inr ⟨_, _, _, hg, calm53⟩, by rw [cell_of_row w g _ _ _ _ hg]; rfl, by rw [cell_of_row w g _ _ _ _ hg]; rfl, h⟩

theorem cut_text (s : ByteArray) (m : Nat) : ∃ T, s.extract 0 (min (s.size : Int) (m : Int)).toNat = T ∧ T.size ≤ m := by
  refine ⟨_, rfl, ?_⟩
  rw [ByteArray.size_extract]
  omega

/-- The head of a sector's bytes. -/
theorem whole_head (T : ByteArray) : (whole T).extract 0 T.size = T := by
  apply ByteArray.ext
  rw [ByteArray.data_extract]
  show (T.data ++ Array.replicate (256 - T.size) 0).extract 0 T.data.size = T.data
  rw [Array.extract_append]
  simp

set_option maxHeartbeats 4000000 in
set_option maxRecDepth 100000 in
theorem keeps_walk (a0 : Int) (s : ByteArray) (x : Int) (vf : Value) (l : List Int) (w : World) (hf : FatesAt w.heap.size w vf l) (hl : l.length * 8 ≤ 140737488355328) :
    Calls Try.prog 4 #[.int .i64 a0, .string s, .agg #[.int .i64 x, vf]] w fun e w' => e = .returned (.bool true) ∧ Kept w w' := by
  obtain ⟨n, hn, en⟩ := low 3 7 (by omega) (by decide) a0
  obtain ⟨k, hk, ek⟩ := low 2 3 (by omega) (by decide) x
  obtain ⟨T, hT, hT256⟩ := cut_text s 256
  have en' : bits .and .i64 a0 7 = (n : Int) := en
  have ek' : bits .and .i64 x 3 = (k : Int) := ek
  have hT' : s.extract 0 (min (s.size : Int) 256).toNat = T := hT
  have hn8 : n < 8 := hn
  have hk4 : k < 4 := hk
  clear hT en ek hn hk
  obtain ⟨f1, f2, f3, f4⟩ := kp_first hn8 hT256 (c := ⟨2 + (k : Int), l⟩) (by show (2 : Int) ≤ 2 + (k : Int); omega)
  obtain ⟨pf, cf, rfl, _⟩ := hf.out
  have hnew := fun (W : World) (g : Nat) (hK : Kept w W) (hg : W.heap[g]? = some (Obj.cells #[.int .i64 (2 + (k : Int)), .slice pf l.length cf] 53)) =>
    new_walk (B := w.heap.size) (w := W) 9 (by omega) (cut_one hg (hf.on (hK.on (Nat.le_refl _)))) hK.size (by simp) (by intro c hc; simp at hc; subst hc; exact hl)
  obtain ⟨D1, eD1⟩ : ∃ D, Dk.new 9 [⟨2 + (k : Int), l⟩] = D := ⟨_, rfl⟩
  have hok0 : Ok 0 D1 := by rw [← eD1]; exact new_ok _ _
  rw [eD1] at f1 f2 f3 f4 hnew
  obtain ⟨D2, eD2⟩ : ∃ D, (D1.write (n : Nat) T).1 = D := ⟨_, rfl⟩
  rw [eD2] at f2 f3 f4
  obtain ⟨D3, eD3⟩ : ∃ D, D2.flush.1 = D := ⟨_, rfl⟩
  rw [eD3] at f4
  have hot : (⟨#[111, 116, 104, 101, 114]⟩ : ByteArray).size ≤ 256 := by decide
  have F4 : Hid (Kp n (whole T) ⟨2 + (k : Int), l⟩ 0 D3) := f4
  clear eD1 f4
  go_enter Try.func4, Try.ntmps4
  go_wp2_with (first
    | (go_at_call 6; refine (hnew _ _ (((Kept.refl w).alloc _).alloc _) (two_new _ _ _)).mono ?_; rintro e w1 ⟨b, g, rfl, hD1, hk1⟩; obtain ⟨B1, hD1', hwB, hB1⟩ : ∃ B1, DiskAt B1 w1 b g D1 ∧ w.heap.size ≤ B1 ∧ B1 ≤ w1.heap.size := ⟨_, hD1, (((Kept.refl w).alloc _).alloc _).size, hk1.size⟩; have hkw1 : Kept w w1 := (((Kept.refl w).alloc _).alloc _).trans hk1; clear hD1 hk1)
    | (go_at_call 9; refine (awake_walk w1).mono ?_; rintro e w2 ⟨rfl, hk2⟩; have hD2 := hk2.dk hD1'; have hB2 := Nat.le_trans hB1 hk2.size; have hkw2 := hkw1.trans hk2)
    | (go_at_call 13; refine (write_walk hD2 hB2 hok0 (by omega) (n : Int) T).mono ?_; rw [f1, eD2]; rintro e w3 ⟨rfl, hD3, ho3⟩; have hB3 := Nat.le_trans hB2 ho3.size; have hkw3 : Kept w w3 := ⟨hkw2.out.trans (ho3.below.mono hwB)⟩)
    | (go_at_call 15; refine (flush_walk hD3 hB3 f2 (by omega)).mono ?_; rw [f3, eD3]; rintro e w4 ⟨rfl, hD4, ho4⟩; have hB4 := Nat.le_trans hB3 ho4.size; have hkw4 : Kept w w4 := ⟨hkw3.out.trans (ho4.below.mono hwB)⟩))
  clear hD1' hD2 hD3 ho3 ho4 hk2 hkw1 hkw2 hkw3 hnew hB1 hB2 hB3
  go_loopg [12] (k + 1) (fun q iv wx => ∃ (i : Nat) (d : Dk), q + i = k + 1 ∧ iv = .int .i64 i ∧ DiskAt B1 wx b g d ∧ B1 ≤ wx.heap.size ∧ Kept w wx ∧ (i ≤ k → Kp n (whole T) ⟨2 + (k : Int), l⟩ i d) ∧ (i = k + 1 → Kq n (whole T) d ∧ d.dead = true))
  case atStart => exact ⟨0, D3, rfl, rfl, hD4, hB4, hkw4, fun _ => F4.out, fun e => absurd e (by omega)⟩
  case round =>
    obtain ⟨i, d, hq, rfl, hd, hBx, hkx, hp, hqq⟩ := hrel
    by_cases hik : i ≤ k
    · have hdc : decide ((i : Int) ≤ (k : Int)) = true := by simpa using hik
      have hP := hp hik
      have hwr := write_walk hd hBx hP.ok (by omega) ((8 : Nat) : Int) ⟨#[111, 116, 104, 101, 114]⟩
      obtain ⟨dn, edn⟩ : ∃ dn, (d.write ((8 : Nat) : Int) ⟨#[111, 116, 104, 101, 114]⟩).1 = dn := ⟨_, rfl⟩
      have HN : Hid ((i + 1 ≤ k → Kp n (whole T) ⟨2 + (k : Int), l⟩ (i + 1) dn) ∧ (i + 1 = k + 1 → Kq n (whole T) dn ∧ dn.dead = true)) := by
        rw [← edn]
        exact ⟨fun h => hP.step hn8 (by show ((2 + i : Nat) : Int) < 2 + (k : Int); omega) _ hot, fun h => hP.last hn8 (by show ¬ ((2 + i : Nat) : Int) < 2 + (k : Int); omega) (by omega) _ hot⟩
      rw [edn] at hwr
      clear edn hp hqq hP hd
      go_wp2_with (go_at_call 13; refine hwr.mono ?_; rintro e w5 ⟨rfl, hD5, ho5⟩)
      go_roundg (k - i)
      case measure => omega
      case rel => exact ⟨i + 1, dn, by omega, by go_num, hD5, Nat.le_trans hBx ho5.size, ⟨hkx.out.trans (ho5.below.mono hwB)⟩, HN.out.1, HN.out.2⟩
    · have hdc : decide ((i : Int) ≤ (k : Int)) = false := by simpa using hik
      obtain ⟨hQ, hdead⟩ := hqq (by omega)
      obtain ⟨g1, g2, g3⟩ := kq_end hn8 hQ hdead
      have hdw := dead_walk hd
      rw [hdead] at hdw
      have hup := up_walk hd
      obtain ⟨du, edu⟩ : ∃ du, d.up = du := ⟨_, rfl⟩
      rw [edu] at hup g1 g2 g3
      have hwh := whole_head T
      have hTs : (T.size : Int) ≤ ((whole T).size : Int) := by rw [whole_size T hT256]; omega
      generalize whole T = wT at hwh hTs g2
      clear hp hqq hd hQ
      go_wp2_with (first
        | (go_at_call 19; refine hdw.mono ?_; rintro e w' ⟨rfl, hw'⟩; rw [hw']; clear hw')
        | (go_at_call 17; refine hup.mono ?_; rintro e w6 ⟨rfl, hD6, ho6⟩; have hB6 := Nat.le_trans hBx ho6.size; have hkw6 : Kept w w6 := ⟨hkx.out.trans (ho6.below.mono hwB)⟩)
        | (go_at_call 11; refine (read_walk hD6 hB6 g1 (by omega) (n : Int)).mono ?_; rw [g2]; rintro e w7 ⟨rfl, hD7, ho7⟩; have hkw7 : Kept w w7 := ⟨hkw6.out.trans (ho7.below.mono hwB)⟩)
        | (go_at_call 21; refine (fails_walk hD7).mono ?_; rw [g3]; rintro e w' ⟨rfl, hw'⟩; rw [hw']; clear hw'))
      go_ret
      exact ⟨rfl, hkw7⟩
end Go.Proofs.Ytfnfdngenohhhaa
