/- The walks of wire.Fixed, of a reader's Fixed, and of the reference's Num and Fixed. Conditions: numbers are ones of 64 bits. -/
import Derived.Deep.RegionWith
import Derived.Laws.IdiomStrings
import Derived.Test.YtanccfbbaeocaaaNWWalkK
namespace Go.Proofs.Ytanccfbbaeocaaa.N
open Go.ChangeShapes Go.WideShapes Go.ChangeAt Go.RowKit

theorem within_walk (q : Int) (w : World) : Calls Try.prog 27 #[.int .i64 q] w fun e w' => e = .returned (.int .i64 (kOf q : Nat)) ∧ w' = w := by
  have h1 : q < 0 → ((kOf q : Nat) : Int) = 0 := by unfold kOf; omega
  have h2 : 8 < q → ((kOf q : Nat) : Int) = 8 := by unfold kOf; omega
  have h3 : 0 ≤ q → q ≤ 8 → ((kOf q : Nat) : Int) = q := by unfold kOf; omega
  have H : Hid ((q < 0 → ((kOf q : Nat) : Int) = 0) ∧ (8 < q → ((kOf q : Nat) : Int) = 8) ∧ (0 ≤ q → q ≤ 8 → ((kOf q : Nat) : Int) = q)) := ⟨h1, h2, h3⟩
  clear h1 h2 h3
  generalize ((kOf q : Nat) : Int) = k at H
  go_enter Try.func27, Try.ntmps27
  go_wp2
  all_goals go_ret
  all_goals refine ⟨?_, rfl⟩
  all_goals obtain ⟨h1, h2, h3⟩ := H.out
  all_goals first | rw [h1 (by omega)] | rw [h2 (by omega)] | rw [h3 (by omega) (by omega)]
  all_goals rfl

set_option maxRecDepth 100000 in
set_option maxHeartbeats 1000000 in
theorem fixed_walk (n : Nat) (hn : n < 18446744073709551616) (q : Int) (w : World) :
    Calls Try.prog 13 #[.int .u64 (n : Nat), .int .i64 q] w fun e w' => e = .returned (.string (bs (fixL n (kOf q)))) ∧ Kept w w' := by
  obtain ⟨i0, hi, hz0, hz1, hz2⟩ := info_parts info5
  have h36 := within_walk q
  have hk8 := kOf_le q
  generalize kOf q = k at *
  go_enter Try.func13, Try.ntmps13
  go_wp2_with (go_at_call 27; refine (h36 _).mono ?_; rintro e w ⟨rfl, rfl⟩)
  go_loopg [0, 5, 8] k (fun g nv v iv wx => ∃ (done : List Nat) (m : Nat), fixL n k = done ++ fixL m g ∧ done.length + g = k ∧ m < 18446744073709551616 ∧ nv = .int .u64 (m : Nat) ∧ iv = .int .i64 (done.length : Nat) ∧ wx.ownsRow w.heap.size 5 1 v done.length (cellsOf done) ∧ Kept w wx)
  case atStart => exact ⟨[], n, rfl, by simp, hn, rfl, rfl, World.ownsRow_nil _ _ _ _, Kept.refl _⟩
  case round =>
    obtain ⟨done, m, hl, hg, hm, rfl, rfl, hown, hk⟩ := hrel
    have HL : Hid (fixL n k = done ++ fixL m gk) := hl
    clear hl
    cases gk with
    | zero =>
      have tx := own_text hown
      have hdk : done.length = k := by omega
      clear hown hg
      go_wp2
      go_ret
      refine ⟨?_, hk⟩
      rw [HL.out]; simp [fixL]
    | succ g =>
      obtain ⟨p, cap, rfl⟩ := owns_shape hown
      have HO : Hid (wr.ownsRow w.heap.size 5 1 (.slice p done.length cap) done.length (cellsOf done)) := hown
      have hdk : done.length < k := by omega
      have HG : Hid (done.length + (g + 1) = k) := hg
      have hd8 : done.length ≤ 8 := by omega
      clear hown hg
      go_wp2_with (at_builtin; refine wpList_append_own _ rfl _ _ 38 rfl w.heap.size 5 i0 (.int .u8 0) 1 1 Try.underlying38 hi hz0 hz1 hz2 rfl (by decide) (.slice p done.length cap) done.length (cellsOf done) rfl ?c0 _ 1 1 [.int .u8 ((m : Int) % 256)] rfl rfl ?c1 ?c2 ?c3 ?c4 ?c5 ?_)
      case c0 => exact HO.out.alloc _
      case c1 => exact one_cell _ _ _
      case c2 => exact one_one _ _
      case c3 => unfold maxLen; omega
      case c4 => omega
      case c5 => have := hk.size; simp; omega
      intro v' w1 hown1 hgrow _
      have hk1 : Kept w w1 := below_own hk HO.out ((Kept.refl wr).alloc _) hgrow
      clear hgrow hi hz0 hz1 hz2
      have H2 : Hid (w1.ownsRow w.heap.size 5 1 v' (done.length + 1) (cellsOf done ++ [.int .u8 ((m : Int) % 256)])) := hown1
      clear hown1
      go_wp2
      go_roundg g
      case measure => omega
      case rel =>
        refine ⟨done ++ [m % 256], m / 256, ?_, ?_, by omega, by go_num, ?_, ?_, hk1⟩
        · rw [HL.out, fixL]; simp
        · have := HG.out; simp; omega
        · simp
        · have := H2.out
          simpa [cellsOf] using this


set_option maxRecDepth 100000 in
set_option maxHeartbeats 1000000 in
theorem reffixed_walk (n : Nat) (hn : n < 18446744073709551616) (k : Nat) (hk8 : k ≤ 8) (w : World) :
    Calls Try.prog 23 #[.int .u64 (n : Nat), .int .i64 (k : Nat)] w fun e w' => e = .returned (.string (bs (fixL n k))) ∧ Kept w w' := by
  have hs := bs_size
  go_enter Try.func23, Try.ntmps23
  go_wp2
  go_loopg [0, 5, 6] k (fun g nv v iv wx => ∃ (done : List Nat) (m : Nat), fixL n k = done ++ fixL m g ∧ done.length + g = k ∧ m < 18446744073709551616 ∧ nv = .int .u64 (m : Nat) ∧ iv = .int .i64 (done.length : Nat) ∧ v = .string (bs done) ∧ Kept w wx)
  case atStart => exact ⟨[], n, rfl, by simp, hn, rfl, rfl, rfl, Kept.refl _⟩
  case round =>
    obtain ⟨done, m, hl, hg, hm, rfl, rfl, rfl, hk⟩ := hrel
    have HL : Hid (fixL n k = done ++ fixL m gk) := hl
    clear hl
    cases gk with
    | zero =>
      have hdk : done.length = k := by omega
      clear hg
      go_wp2
      go_ret
      refine ⟨?_, hk⟩
      rw [HL.out]; simp [fixL]
    | succ g =>
      have hdk : done.length < k := by omega
      have HG : Hid (done.length + (g + 1) = k) := hg
      have hd8 : done.length < 8 := by omega
      clear hg
      have one := one_text wr ((m : Int) % 256) (by omega) 5
      rw [show ((m : Int) % 256).toNat = m % 256 by omega] at one
      go_wp2
      go_roundg g
      case measure => omega
      case rel =>
        refine ⟨done ++ [m % 256], m / 256, ?_, ?_, by omega, by go_num, ?_, ?_, hk.alloc _⟩
        · rw [HL.out, fixL]; simp
        · have := HG.out; simp; omega
        · simp
        · rw [← bs_append]

set_option maxRecDepth 100000 in
set_option maxHeartbeats 1000000 in
theorem refnum_walk (n : Nat) (hn : n < 18446744073709551616) : ∀ (w : World),
    Calls Try.prog 22 #[.int .u64 n] w fun e w' => e = .returned (.string (bs (numL n))) ∧ Kept w w' := by
  induction n using Nat.strongRecOn with
  | _ n ih =>
    intro w
    by_cases h : n < 128
    · have one := one_text w (n : Int) (by omega) 5
      rw [Int.toNat_natCast] at one
      rw [numL_last h]
      go_enter Try.func22, Try.ntmps22
      go_wp2
      go_ret
      exact ⟨rfl, (Kept.refl w).alloc _⟩
    · have h15 : ∀ w, Calls Try.prog 22 #[.int .u64 ((n : Int) / 128)] w fun e w' => e = .returned (.string (bs (numL (n / 128)))) ∧ Kept w w' := by
        have := ih (n / 128) (by omega) (by omega)
        rwa [show ((n / 128 : Nat) : Int) = (n : Int) / 128 by omega] at this
      clear ih
      have h10 := numL_ten (n / 128) (by omega)
      rw [numL_more h]
      have hs := bs_size
      have hcat : ∀ l, bs [128 + n % 128] ++ bs l = bs ((128 + n % 128) :: l) := fun l => by rw [bs_append]; rfl
      have cv : ∀ W b, One W b ((128 + n % 128 : Nat) : Int) → (convert 38 9 (.slice (some ⟨b, 0, none⟩) 1 1)).run Try.prog W = .ok (.string (bs [128 + n % 128])) W := by
        intro W b ho
        have := ho.text (by omega)
        rwa [Int.toNat_natCast] at this
      have oa := One.alloc w ((128 + n % 128 : Nat) : Int)
      have od := One.drew _ _ _ oa
      have w1 : IntKind.u8.wrap (IntKind.u64.wrap (128 + (n : Int).tmod 128)) = ((128 + n % 128 : Nat) : Int) := by
        rw [Int.tmod_eq_emod_of_nonneg (by omega), IntKind.wrap_u64, IntKind.wrap_u8]; omega
      have w2 : IntKind.u64.wrap ((n : Int) / 128) = (n : Int) / 128 := by rw [IntKind.wrap_u64]; omega
      generalize ((128 + n % 128 : Nat) : Int) = X at cv oa od w1
      generalize numL (n / 128) = l at *
      go_enter Try.func22, Try.ntmps22
      go_wp2
      go_region_with (first
        | (go_at_call 22; refine (h15 _).mono ?_; rintro e v2 ⟨rfl, hk2⟩; have o2 := hk2.one _ _ od)
        | (go_at_call 22; refine (h15 _).mono ?_; rintro e v2 ⟨rfl, hk2⟩; have o3 := One.alloc v2 X))
      all_goals go_wp2
      all_goals go_ret
      all_goals first
        | exact ⟨rfl, (((Kept.refl w).alloc _).drew).trans hk2⟩
        | exact ⟨rfl, ((Kept.refl w).drew.trans hk2).alloc _⟩

/-- A text's bytes as a list of their own. -/
theorem bytes_of (w : World) (l : List Nat) (hs : Small l) : ∃ cap w', (convert 9 38 (.string (bs l))).run Try.prog w = .ok (.slice (some ⟨w.heap.size, 0, none⟩) l.length cap) w' ∧ Kept w w' ∧
    ∀ i, i < l.length → w'.cell? ⟨w.heap.size, i, none⟩ = some (.int .u8 (l.getD i 0 : Nat)) := by
  have h := run_bytes_of_string (P := Try.prog) w 9 38 5 (bs l) Try.underlying9 Try.underlying38 Try.underlying5
  rw [bs_size] at h
  refine ⟨_, _, h, ((Kept.refl w).drew).alloc _, fun i hi => ?_⟩
  have e := World.cell?_alloc_mark w.drew (bytesRow (bs l) (grownCap w l.length 0 5)) 5 ((bytesRow (bs l) (grownCap w l.length 0 5)).size, (bytesRow (bs l) (grownCap w l.length 0 5)).size + 1) i
  have hz : i < (bs l).data.size := by rw [← bs_size l] at hi; exact hi
  have e2 := bytesRow_at (bs l) (grownCap w l.length 0 5) i hz
  have e3 := bs_get l i (by rw [bs_size]; exact hi)
  rw [Nat.mod_eq_of_lt (hs.getD i)] at e3
  refine e.trans (e2.trans ?_)
  rw [← e3]
  rfl


theorem part_or8 (n i : Nat) (hn : n < 18446744073709551616) (x : Nat) (hx : n % 256 ^ (i + 1) = n % 256 ^ i + x * 256 ^ i) :
    bits .or .u64 ((n % 256 ^ i : Nat) : Int) (IntKind.u64.wrap ((x : Int) * 2 ^ (8 * i))) = ((n % 256 ^ (i + 1) : Nat) : Int) := by
  have e : (256 : Nat) ^ i = 2 ^ (8 * i) := by rw [Nat.pow_mul]
  have h1 : n % 256 ^ i < 2 ^ (8 * i) := by rw [← e]; exact Nat.mod_lt _ (by rw [e]; exact Nat.two_pow_pos _)
  have h2 : n % 256 ^ (i + 1) ≤ n := Nat.mod_le _ _
  have h3 : x * 2 ^ (8 * i) < 18446744073709551616 := by rw [← e]; omega
  have h4 : IntKind.u64.wrap ((x : Int) * 2 ^ (8 * i)) = ((x * 2 ^ (8 * i) : Nat) : Int) := by
    have : ((x * 2 ^ (8 * i) : Nat) : Int) = (x : Int) * 2 ^ (8 * i) := by simp
    rw [IntKind.wrap_u64]
    omega
  rw [h4, bits_or_u64_nat _ _ (by omega) h3, or_add _ _ _ h1, hx, ← e]


theorem rtake_in (n k : Nat) (t : List Nat) {b : Nat} {w : World} (r : Rd w b (bs (fixL n k ++ t)) 0) :
    Calls Try.prog 42 #[.pointer (some ⟨b, 0, none⟩), .int .i64 (k : Nat)] w fun e w' => e = .returned (.string (bs (fixL n k))) ∧ Rd w' b (bs t) 0 ∧ On b w w' := by
  have := take_walk (fixL n k) t 0 (b := b) (w := w) r
  rw [fixL_length] at this
  exact this

set_option maxRecDepth 100000 in
set_option maxHeartbeats 1000000 in
theorem rfixed_walk (n : Nat) (hn : n < 18446744073709551616) (q : Int) (t : List Nat) {b : Nat} {w : World} (r : Rd w b (bs (fixL n (kOf q) ++ t)) 0) :
    Calls Try.prog 30 #[.pointer (some ⟨b, 0, none⟩), .int .i64 q] w fun e w' => e = .returned (.int .u64 ((n % 256 ^ kOf q : Nat) : Int)) ∧ Rd w' b (bs t) 0 ∧ On b w w' := by
  have h36 := within_walk q
  have hk8 := kOf_le q
  have h21 := rtake_in n (kOf q) t r
  have hsm := fixL_small n (kOf q)
  have hfl := fixL_length (kOf q) n
  have hfa := fixL_at (kOf q) n
  generalize kOf q = k at *
  have HC : Hid (∀ w, ∃ cap w', (convert 9 38 (.string (bs (fixL n k)))).run Try.prog w = .ok (.slice (some ⟨w.heap.size, 0, none⟩) k cap) w' ∧ Kept w w' ∧ Hid (∀ i, i < k → w'.cell? ⟨w.heap.size, i, none⟩ = some (.int .u8 ((n / 256 ^ i % 256 : Nat) : Int)))) := by
    intro w
    obtain ⟨cap, w', h1, h2, h3⟩ := bytes_of w (fixL n k) hsm
    rw [hfl] at h1
    exact ⟨cap, w', h1, h2, fun i hi => by have := h3 i (by omega); rwa [hfa i hi] at this⟩
  clear hsm hfl hfa
  have hb := r.lt
  clear r
  generalize bs (fixL n k) = s at *
  generalize bs t = s' at *
  go_enter Try.func30, Try.ntmps30
  go_wp2_with (first
    | (go_at_call 27; refine (h36 _).mono ?_; rintro e w' ⟨rfl, hw⟩; rw [hw]; clear hw)
    | (go_at_call 42; refine h21.mono ?_; rintro e w3 ⟨rfl, r3, o3⟩; obtain ⟨cap, w4, hcv, hk4, hcell⟩ := HC.out w3))
  go_loopg [5, 14] k (fun g nv iv wx => ∃ i A : Nat, i + g = k ∧ A = n % 256 ^ i ∧ nv = .int .u64 (A : Nat) ∧ iv = .int .i64 (i : Nat) ∧ wx = w4)
  case atStart => exact ⟨0, 0, by omega, by rw [Nat.pow_zero, Nat.mod_one], rfl, rfl, rfl⟩
  case round =>
    obtain ⟨i, A, hg, hA, rfl, rfl, rfl⟩ := hrel
    have HG : Hid (i + gk = k) := hg
    have HA : Hid (A = n % 256 ^ i) := hA
    clear hA
    cases gk with
    | zero =>
      obtain rfl : i = k := by omega
      clear hg
      go_wp2
      go_ret
      refine ⟨by rw [← HA.out]; rfl, hk4.rd r3, o3.trans (hk4.on (by have := o3.size; omega))⟩
    | succ g =>
      have hik : i < k := by omega
      have hc := hcell.out i hik
      have p1 := mod_step n (256 ^ i) 256
      rw [← Nat.pow_succ] at p1
      have p3 := part_or8 n i hn (n / 256 ^ i % 256) p1
      rw [← HA.out] at p3
      obtain ⟨x, hx⟩ : ∃ x, x = n / 256 ^ i % 256 := ⟨_, rfl⟩
      rw [← hx] at hc p3
      have hx2 : x < 256 := by omega
      obtain ⟨B, hB⟩ : ∃ B, B = n % 256 ^ (i + 1) := ⟨_, rfl⟩
      rw [← hB] at p3
      have HB : Hid (B = n % 256 ^ (i + 1)) := hB
      clear hg p1 hx hB
      go_wp2
      go_roundg g
      case measure => omega
      case rel => exact ⟨i + 1, B, by have := HG.out; omega, HB.out, rfl, by go_num, rfl⟩
end Go.Proofs.Ytanccfbbaeocaaa.N
