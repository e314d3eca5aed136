/- The walk of number. Conditions: the bytes are digits; texts are within a bound. -/
import Derived.Test.YtgjhonphnecdhaaMF
namespace Go.Proofs.Ytgjhonphnecdhaa.Lx
open Go.ChangeShapes Go.WideShapes Go.ChangeAt Go.RowKit

/-- Bytes made of a text. -/
theorem made_bytes (w : World) (s : ByteArray) (hn : s.size ≤ 1000000) : ∃ g cap w', (convert 9 34 (.string s)).run Try.prog w = .ok (.slice (some ⟨g, 0, none⟩) s.size cap) w' ∧ Kept w w' ∧ s.size ≤ cap ∧ cap ≤ 9223372036854775807 ∧ ∀ k, k < s.size → w'.cell? ⟨g, k, none⟩ = some (.int .u8 (bt s k : Nat)) := by
  have h := run_bytes_of_string (P := Try.prog) w 9 34 5 s Try.underlying9 Try.underlying34 Try.underlying5
  have hge := grownCap_ge w s.size 0 5
  have hcm : grownCap w s.size 0 5 ≤ maxLen := grownCap_le_maxLen w s.size 0 5 (by unfold maxLen; omega)
  unfold maxLen at hcm
  refine ⟨_, _, _, h, (Kept.refl w).drew.alloc _, hge, by omega, fun k hk => ?_⟩
  refine (cell_of_row _ w.heap.size k _ _ _ (alloc_at w.drew _)).trans ?_
  unfold bytesRow
  have h1 : k < (s.data.map fun b => Value.int .u8 (b.toNat : Nat)).size := by rw [Array.size_map]; exact hk
  have h2 : k < s.data.size := hk
  rw [Array.getElem?_append_left h1]
  simp only [Array.getElem?_map, Array.getElem?_eq_getElem h2, Option.map_some]
  unfold bt
  rw [Array.getElem?_eq_getElem h2]
  rfl

set_option maxRecDepth 100000 in
set_option maxHeartbeats 1000000 in
theorem number_walk (d : ByteArray) (hd : d.size ≤ 1000000) (hdig : ∀ k, k < d.size → 48 ≤ bt d k ∧ bt d k ≤ 57) (w : World) :
    Calls Try.prog 27 #[.string d] w fun e w' => e = .returned (.int .i64 ((min (vl d 0 d.size) 2147483649 : Nat))) ∧ Kept w w' := by
  obtain ⟨g, cap, w1, hcv, hk1, hc1, hc2, hcell⟩ := made_bytes w d hd
  have HK : Hid (Kept w w1) := hk1
  have HC : Hid (∀ k, k < d.size → w1.cell? ⟨g, k, none⟩ = some (.int .u8 (bt d k : Nat))) := hcell
  have HD : Hid (∀ k, k < d.size → 48 ≤ bt d k ∧ bt d k ≤ 57) := hdig
  clear hk1 hcell hdig
  go_enter Try.func27, Try.ntmps27
  go_wp2
  go_loopg [3, 9] d.size (fun g' nv iv wx => ∃ k a : Nat, k + g' = d.size ∧ Hid (a = min (vl d 0 k) 2147483649) ∧ a ≤ 2147483649 ∧ nv = .int .i64 (a : Nat) ∧ iv = .int .i64 (k : Nat) ∧ wx = w1)
  case atStart => exact ⟨0, 0, by omega, rfl, by omega, rfl, rfl, rfl⟩
  case round =>
    obtain ⟨k, a, hg, HA, ha, rfl, rfl, rfl⟩ := hrel
    cases gk with
    | zero =>
      have hz : Hid (min (vl d 0 d.size) 2147483649 = a) := by
        have : k = d.size := by omega
        show _ = _
        rw [HA.out, this]
      have hi2 : ¬ (k : Int) < (d.size : Nat) := by omega
      clear hg
      go_wp2
      go_ret
      exact ⟨by rw [hz.out]; rfl, HK.out⟩
    | succ g' =>
      have hks : k < d.size := by omega
      have HG : Hid (k + g' + 1 = d.size) := by show k + g' + 1 = d.size; omega
      have hc := HC.out k hks
      obtain ⟨y1, y2⟩ := HD.out k hks
      have HV : Hid (vl d 0 (k + 1) = vl d 0 k * 10 + (bt d k - 48)) := by show _ = _; rw [vl, Nat.zero_add]
      generalize bt d k = y at *
      obtain ⟨q, hq⟩ : ∃ q, q = y - 48 := ⟨_, rfl⟩
      have hq9 : q ≤ 9 := by omega
      have eq1 : (y : Int) - 48 = (q : Nat) := by omega
      have HQ : Hid (q = y - 48) := hq
      obtain ⟨r, hr⟩ : ∃ r, r = a * 10 + q := ⟨_, rfl⟩
      have er1 : (a : Int) * 10 + (q : Nat) = (r : Nat) := by omega
      have HR : Hid (r = a * 10 + q) := hr
      have hr2 : r ≤ 21474836499 := by omega
      clear hq hr hg
      by_cases hle : r ≤ 2147483649
      · have hm1 : min (r : Int) 2147483649 = (r : Nat) := by omega
        have hle2 : (r : Int) ≤ 2147483649 := by omega
        go_wp2
        go_roundg g'
        case measure => omega
        case rel => exact ⟨k + 1, r, by have := HG.out; omega, by have h1 := HA.out; have h2 := HV.out; have h3 := HQ.out; have h4 := HR.out; show r = _; rw [h2]; omega, hle, rfl, by go_num, rfl⟩
      · have hm1 : min (r : Int) 2147483649 = 2147483649 := by omega
        have hle2 : ¬ (r : Int) ≤ 2147483649 := by omega
        go_wp2
        go_roundg g'
        case measure => omega
        case rel => exact ⟨k + 1, 2147483649, by have := HG.out; omega, by have h1 := HA.out; have h2 := HV.out; have h3 := HQ.out; have h4 := HR.out; show 2147483649 = _; rw [h2]; omega, by omega, rfl, by go_num, rfl⟩
end Go.Proofs.Ytgjhonphnecdhaa.Lx
