/- The walks of the reference's letter, Words, Kept, sign, skip. Conditions: texts are within a bound. -/
import Derived.Test.YtgjhonphnecdhaaMD
namespace Go.Proofs.Ytgjhonphnecdhaa.Lx
open Go.ChangeShapes Go.WideShapes Go.ChangeAt Go.RowKit

set_option maxRecDepth 100000 in
set_option maxHeartbeats 400000 in
theorem letter_walk (y : Nat) (w : World) :
    Calls Try.prog 19 #[.int .u8 (y : Nat)] w fun e w' => e = .returned (.int .i64 (lt y : Nat)) ∧ w' = w := by
  go_enter Try.func19, Try.ntmps19
  go_wp2
  all_goals go_ret
  all_goals refine ⟨?_, rfl⟩
  all_goals (refine congrArg Ending.returned (congrArg (Value.int .i64) ?_))
  all_goals (unfold lt)
  all_goals ((repeat' split) <;> first | rfl | (exfalso; simp at *; omega))

/-- The signs, each a text. -/
def sgs : List Nat := [123, 125, 40, 41, 59, 58, 44, 46, 64, 38, 42, 60, 43, 45, 61]
def sgl : List ByteArray := sgs.map fun c => ⟨#[UInt8.ofNat c]⟩
theorem sgs_knd {y : Nat} : y ∈ sgs ↔ knd y = 5 := by
  unfold sgs knd
  simp only [List.mem_cons, List.not_mem_nil, or_false]
  constructor
  · intro h
    rw [if_neg (by omega), if_neg (by omega), if_neg (by omega), if_pos (by omega)]
  · intro h
    by_cases g : y = 123 ∨ y = 125 ∨ y = 40 ∨ y = 41 ∨ y = 59 ∨ y = 58 ∨ y = 44 ∨ y = 61 ∨ y = 46 ∨ y = 64 ∨ y = 38 ∨ y = 42 ∨ y = 60 ∨ y = 43 ∨ y = 45
    · omega
    · exfalso
      revert h
      (repeat' split) <;> intro h <;> omega
theorem sgs_lt {c : Nat} (h : c ∈ sgs) : c < 256 := by
  unfold sgs at h
  simp only [List.mem_cons, List.not_mem_nil, or_false] at h
  omega
theorem one_iff {s : ByteArray} {i c : Nat} (hi : i < s.size) (hc : c < 256) : s.extract i (i + 1) = ⟨#[UInt8.ofNat c]⟩ ↔ bt s i = c := by
  have e0 : bt (s.extract i (i + 1)) 0 = bt s i := by rw [bt_extract, if_pos (by omega)]; rfl
  have e1 : bt (⟨#[UInt8.ofNat c]⟩ : ByteArray) 0 = c := by show (UInt8.ofNat c).toNat = c; simp; omega
  constructor
  · intro h
    rw [h] at e0
    omega
  · intro h
    apply ext_bt
    · rw [size_extract]; show min (i + 1) s.size - i = 1; omega
    · intro k hk
      rw [size_extract] at hk
      obtain rfl : k = 0 := by omega
      rw [e0, h, e1]
theorem row_at (w : World) (xs : List ByteArray) (cs : Array Value) (t : TypeId) (e : cs.toList = xs.map fun x => .string x) {W : World} (hW : Kept (w.alloc (.cells cs t)) W) {k : Nat} {x : ByteArray} (hx : xs[k]? = some x) : W.cell? ⟨w.heap.size, k, none⟩ = some (.string x) := by
  rw [cell_of_row W w.heap.size k _ _ _ (hW.block (alloc_at w _)), ← Array.getElem?_toList, e, List.getElem?_map, hx]; rfl

/-- What the reference says of a sign: how many bytes. -/
def sr (s : ByteArray) (i : Nat) : Nat := if knd (bt s i) = 5 then sl s i else 0

set_option maxRecDepth 100000 in
set_option maxHeartbeats 1000000 in
theorem sign_walk (s : ByteArray) (i : Nat) (hi : i < s.size) (hs : s.size ≤ 1000000) (w : World) :
    Calls Try.prog 20 #[.string s, .int .i64 (i : Nat)] w fun e w' => e = .returned (.int .i64 (sr s i : Nat)) ∧ Kept w w' := by
  obtain ⟨cs, hcs⟩ : ∃ cs : Array Value, cs = #[.string ⟨#[123]⟩, .string ⟨#[125]⟩, .string ⟨#[40]⟩, .string ⟨#[41]⟩, .string ⟨#[59]⟩, .string ⟨#[58]⟩, .string ⟨#[44]⟩, .string ⟨#[46]⟩, .string ⟨#[64]⟩, .string ⟨#[38]⟩, .string ⟨#[42]⟩, .string ⟨#[60]⟩, .string ⟨#[43]⟩, .string ⟨#[45]⟩, .string ⟨#[61]⟩] := ⟨_, rfl⟩
  have ecs : cs.toList = sgl.map fun x => .string x := by rw [hcs]; rfl
  have kA : Hid (Kept w (w.alloc (.cells cs 9))) := (Kept.refl w).alloc _
  have HC : Hid (∀ W, Kept (w.alloc (.cells cs 9)) W → ∀ (k : Nat) (x : ByteArray), sgl[k]? = some x → W.cell? ⟨w.heap.size, k, none⟩ = some (.string x)) := fun W hW k x hx => row_at w sgl cs _ ecs hW hx
  rw [hcs] at HC kA
  have HE : Hid (∀ (k : Nat) (x : ByteArray), sgl[k]? = some x → ((s.extract i (i + 1)).toList == x.toList) = decide (sgs[k]? = some (bt s i))) := fun k x hx => by
    unfold sgl at hx
    rw [List.getElem?_map] at hx
    cases hc : sgs[k]? with
    | none => rw [hc] at hx; cases hx
    | some c =>
      rw [hc] at hx
      simp at hx
      subst hx
      rw [Bool.eq_iff_iff, seq_eq, one_iff hi (sgs_lt (List.mem_of_getElem? hc)), decide_eq_true_iff]
      simp; omega
  have HS : Hid (bt s i ∈ sgs → sr s i = sl s i) := fun h => by unfold sr; rw [if_pos (sgs_knd.1 h)]
  have HZ : Hid (bt s i ∉ sgs → sr s i = 0) := fun h => by unfold sr; rw [if_neg (fun g => h (sgs_knd.2 g))]
  have HT : Hid (((s.extract i (i + 2)).toList == [61, 61]) = decide (sl s i = 2)) := by
    show _ = _
    rw [← show (⟨#[61, 61]⟩ : ByteArray).toList = [61, 61] from toList_data _, Bool.eq_iff_iff, seq_eq, two_iff, decide_eq_true_iff]
    unfold sl
    split <;> simp_all
  have HL : Hid (1 ≤ sl s i ∧ sl s i ≤ 2 ∧ i + sl s i ≤ s.size) := ⟨(sl_in hi).2.1, (sl_in hi).2.2, (sl_in hi).1⟩
  clear hcs ecs
  go_enter Try.func20, Try.ntmps20
  go_wp2
  generalize hW0 : w.alloc _ = W0 at *
  go_loopg [6] 15 (fun g at_ wx => ∃ k : Nat, k + g = 15 ∧ (∀ j, j < k → sgs[j]? ≠ some (bt s i)) ∧ at_ = .int .i64 (k : Nat) ∧ Kept W0 wx)
  case atStart => exact ⟨0, rfl, fun j h => absurd h (Nat.not_lt_zero j), rfl, Kept.refl _⟩
  case round =>
    obtain ⟨k, hg, hn, rfl, hw⟩ := hrel
    have HW : Hid (Kept W0 wr) := hw
    have HN : Hid (∀ j, j < k → sgs[j]? ≠ some (bt s i)) := hn
    clear hn hw
    cases gk with
    | zero =>
      obtain rfl : k = 15 := by omega
      have hz : Hid (sr s i = 0) := HZ.out (fun h => by
        obtain ⟨j, hj⟩ := List.getElem?_of_mem h
        exact HN.out j (by have := (List.getElem?_eq_some_iff.1 hj).1; exact this) hj)
      clear hg
      go_wp2
      go_ret
      exact ⟨by rw [hz.out]; rfl, kA.out.trans HW.out⟩
    | succ g =>
      have hk : k < 15 := by omega
      have HG : Hid (k + g + 1 = 15) := by show k + g + 1 = 15; omega
      obtain ⟨x, hx⟩ : ∃ x, sgl[k]? = some x := ⟨_, List.getElem?_eq_getElem (show k < sgl.length from hk)⟩
      have hc := HC.out wr HW.out k x hx
      have hq := HE.out k x hx
      clear hg hx
      by_cases hm : sgs[k]? = some (bt s i)
      · have HM : Hid (sr s i = sl s i) := HS.out (List.mem_of_getElem? hm)
        rw [decide_eq_true hm] at hq
        clear hm
        obtain ⟨l1, l2, l3⟩ := HL.out
        by_cases h2 : i + 2 ≤ s.size
        · have ht := HT.out
          by_cases hs2 : sl s i = 2
          · rw [decide_eq_true hs2] at ht
            have HM2 : Hid (sr s i = 2) := HM.out.trans hs2
            clear hs2 l1 l2 l3
            go_wp2
            go_region
            all_goals go_wp2
            all_goals go_ret
            all_goals exact ⟨by rw [HM2.out]; rfl, kA.out.trans HW.out.drew⟩
          · rw [decide_eq_false hs2] at ht
            have HM2 : Hid (sr s i = 1) := HM.out.trans (by omega)
            clear hs2 l1 l2 l3
            go_wp2
            go_region
            all_goals go_wp2
            all_goals go_ret
            all_goals exact ⟨by rw [HM2.out]; rfl, kA.out.trans HW.out.drew⟩
        · have HM2 : Hid (sr s i = 1) := HM.out.trans (by omega)
          have h3 : ¬ (i : Int) + 2 ≤ (s.size : Nat) := by omega
          clear l1 l2 l3 h2
          go_wp2
          go_region
          all_goals go_wp2
          all_goals go_ret
          all_goals exact ⟨by rw [HM2.out]; rfl, kA.out.trans HW.out.drew⟩
      · rw [decide_eq_false hm] at hq
        have HM : Hid (∀ j, j < k + 1 → sgs[j]? ≠ some (bt s i)) := fun j hj => by
          rcases Nat.lt_or_ge j k with h | h
          · exact HN.out j h
          · obtain rfl : j = k := by omega
            exact hm
        clear hm
        go_wp2
        go_region
        all_goals go_wp2
        all_goals go_roundg g
        case measure => omega
        case rel => exact ⟨k + 1, by have := HG.out; omega, HM.out, by go_num, HW.out.drew⟩
end Go.Proofs.Ytgjhonphnecdhaa.Lx
