/- The walk of node.Find: the first place of a key that is not below one, and whether it is that. Conditions: 100000 keys at most. -/
import Derived.Test.YtgcfollelefmcaaPl
import Derived.Laws.Cover1
namespace Go.Proofs.Ytgcfollelefmcaa
open Go.ChangeShapes Go.WideShapes Go.ChangeAt Go.RowKit

theorem isk_eq {key k : ByteArray} {ks : List ByteArray} (h : ks[fnd key ks]? = some k) : isk key ks = (k.toList == key.toList) := by
  unfold isk
  rw [h, seq_iff]
  simp

set_option maxRecDepth 100000 in
theorem find_some {w : World} {b off n c : Nat} {ks : List ByteArray} (hl : ks.length = n) (hc : ∀ j u, (kcl ks)[j]? = some u → w.cell? ⟨b, off + j, none⟩ = some u) (hn : n ≤ 100000) (key : ByteArray) :
    Calls Try.prog 19 #[.slice (some ⟨b, off, none⟩) n c, .string key] w fun e w' => e = .returned (.tuple #[.int .i64 (fnd key ks : Nat), .bool (isk key ks)]) ∧ w' = w := by
  have HC : Hid (∀ j k, ks[j]? = some k → w.cell? ⟨b, off + j, none⟩ = some (.string k)) := fun j k hk => hc j _ (kcl_at hk)
  have HL : Hid (ks.length = n) := hl
  clear hc hl
  go_enter Try.func19, Try.ntmps19
  go_wp2
  go_loopg [10] n (fun g v wx => ∃ i : Nat, v = .int .i64 (i : Nat) ∧ Hid (g = n - i) ∧ i ≤ n ∧ Hid (∀ j, j < i → ∀ k, ks[j]? = some k → sl k key = true) ∧ wx = w)
  case atStart => exact ⟨0, rfl, rfl, Nat.zero_le _, (fun j hj => absurd hj (Nat.not_lt_zero _)), rfl⟩
  case round =>
    obtain ⟨i, rfl, hg, hi, hlo, rfl⟩ := hrel
    by_cases hin : i < n
    · have hil : i < ks.length := by rw [HL.out]; exact hin
      obtain ⟨k, hk⟩ : ∃ k, ks[i]? = some k := ⟨_, List.getElem?_eq_getElem hil⟩
      have hcell := HC.out i k hk
      have Hk : Hid (ks[i]? = some k) := hk
      clear hk hil
      by_cases hs : Op.bytesLess k.toList key.toList = true
      · go_wp2
        go_roundg (n - (i + 1))
        case measure => rw [hg.out]; omega
        case rel =>
          refine ⟨i + 1, by go_num, rfl, by omega, ?_, rfl⟩
          intro j hj k2 hk2
          by_cases e : j = i
          · subst e; rw [Hk.out] at hk2; cases hk2; exact hs
          · exact hlo.out j (by omega) k2 hk2
      · have hs' : Op.bytesLess k.toList key.toList = false := by simpa using hs
        clear hs
        have hf : fnd key ks = i := fnd_eq key hlo.out (by rw [HL.out]; exact hi) (fun k2 hk2 => by rw [Hk.out] at hk2; cases hk2; exact hs')
        have hf2 : isk key ks = (k.toList == key.toList) := isk_eq (by rw [hf]; exact Hk.out)
        have HF : Hid (fnd key ks = i) := hf
        have HF2 : Hid (isk key ks = (k.toList == key.toList)) := hf2
        clear hf hf2
        go_wp2
        go_ret2
        rw [HF.out, HF2.out]
        exact ⟨rfl, rfl⟩
    · obtain rfl : i = n := by omega
      have hf : fnd key ks = i := fnd_eq key hlo.out (by rw [HL.out]; exact Nat.le_refl _) (fun k2 hk2 => by rw [List.getElem?_eq_none (by rw [HL.out]; exact Nat.le_refl _)] at hk2; cases hk2)
      have hf2 : isk key ks = false := by unfold isk; rw [hf, List.getElem?_eq_none (by rw [HL.out]; exact Nat.le_refl _)]; rfl
      have HF : Hid (fnd key ks = i) := hf
      have HF2 : Hid (isk key ks = false) := hf2
      clear hf hf2 hin
      go_wp2
      go_ret2
      rw [HF.out, HF2.out]
      exact ⟨rfl, rfl⟩

theorem find_none {w : World} {c : Nat} (key : ByteArray) :
    Calls Try.prog 19 #[.slice none 0 c, .string key] w fun e w' => e = .returned (.tuple #[.int .i64 0, .bool false]) ∧ w' = w := by
  go_enter Try.func19, Try.ntmps19
  go_wp2
  go_loopg [10] 0 (fun _ v wx => v = .int .i64 0 ∧ wx = w)
  case atStart => exact ⟨rfl, rfl⟩
  case round =>
    obtain ⟨rfl, rfl⟩ := hrel
    go_wp2
    go_ret2
    exact ⟨rfl, rfl⟩

theorem find_walk {w : World} {p : Option Addr} {n c : Nat} {ks : List ByteArray} (h : Rw w 1 p n c (kcl ks)) (hn : n ≤ 100000) (key : ByteArray) :
    Calls Try.prog 19 #[.slice p n c, .string key] w fun e w' => e = .returned (.tuple #[.int .i64 (fnd key ks : Nat), .bool (isk key ks)]) ∧ w' = w := by
  have hl := h.len
  rw [kcl_length, Nat.mul_one] at hl
  rcases h.out with ⟨rfl, rfl⟩ | ⟨b, off, rfl, hc⟩
  · obtain rfl : ks = [] := List.length_eq_zero_iff.1 hl
    exact find_none key
  · exact find_some hl hc hn key
end Go.Proofs.Ytgcfollelefmcaa
