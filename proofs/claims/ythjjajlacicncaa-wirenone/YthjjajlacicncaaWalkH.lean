/- The walk of wire.Unkey: of bytes that begin with a key, the number and what stands behind; of others, none. Conditions: all bytes are below 256; a text has 100000 bytes at most. -/
import Derived.Test.YthjjajlacicncaaWalkC
import Derived.BigQuiet
namespace Go.Proofs.Ythjjajlacicncaa
open Go.ChangeShapes Go.WideShapes Go.ChangeAt Go.RowKit

theorem Kept.drewN {a b : World} (h : Kept a b) (n : Nat) : Kept a (b.drewN n) := ⟨⟨h.out.os, h.out.tape, h.out.output, h.out.size, h.out.block⟩⟩

theorem or_byte (N x : Nat) (hx : x < 256) (hN : N < 72057594037927936) : bits .or .u64 ((N : Int) * 256) (x : Int) = ((N * 256 + x : Nat) : Int) := by
  have e : (N : Int) * 256 = ((N * 256 : Nat) : Int) := by simp
  have h := or_add x N 8 hx
  rw [Nat.or_comm] at h
  rw [e, bits_or_u64_nat _ _ (by omega) (by omega)]
  rw [show (2 : Nat) ^ 8 = 256 from rfl] at h
  rw [h, Nat.add_comm]

theorem bs_ne (c : Nat) (r : List Nat) : ((bs (c :: r)).toList == []) = false := by rw [bs_toList]; rfl

theorem bs_rest1 (c : Nat) (r : List Nat) : (bs (c :: r)).extract 1 (bs (c :: r)).size = bs r := by
  rw [bs_extract, bs_size, List.drop_one, List.tail_cons, List.length_cons, Nat.add_sub_cancel, List.take_of_length_le (Nat.le_refl _)]

theorem bigV_take (l : List Nat) (k : Nat) (h : k < l.length) : bigV (l.take (k + 1)) = bigV (l.take k) * 256 + l.getD k 0 := by
  rw [List.take_add_one, List.getElem?_eq_getElem h]
  simp only [Option.toList, bigV_push, List.getD, List.getElem?_eq_getElem h, Option.getD_some]

set_option maxRecDepth 100000 in
set_option maxHeartbeats 1000000 in
theorem unkey_ok (c : Nat) (rest : List Nat) (hc : c ≤ 8) (hcl : c ≤ rest.length) (hz : c = 0 ∨ rest.getD 0 0 ≠ 0) (hs : Small rest) (hl : rest.length ≤ 100000) (w : World) :
    Calls Try.prog 18 #[.string (bs (c :: rest))] w fun e w' => e = .returned (.tuple #[.int .u64 (bigV (rest.take c) : Nat), .string (bs (rest.drop c)), .bool true]) ∧ Kept w w' := by
  have hne := bs_ne c rest
  have hsz : (bs (c :: rest)).size = rest.length + 1 := by rw [bs_size]; rfl
  have h0 : ∀ h : 0 < (bs (c :: rest)).size, (bs (c :: rest))[0].toNat = c := by intro h; rw [bs_get]; simp; omega
  have hx : (bs (c :: rest)).extract 1 (rest.length + 1) = bs rest := by
    have := bs_rest1 c rest
    rwa [hsz] at this
  have hrs := bs_size rest
  have hb : ∀ k (h : k < (bs rest).size), (bs rest)[k].toNat = rest.getD k 0 := by intro k h; rw [bs_get, Nat.mod_eq_of_lt (hs.getD k)]
  have hend : (bs rest).extract c rest.length = bs (rest.drop c) := by
    rw [bs_extract, List.take_of_length_le (by simp)]
  generalize bs (c :: rest) = s at *
  generalize bs rest = r at *
  generalize bs (rest.drop c) = q at *
  have hpos : 0 < s.size := by omega
  have h0 := h0 hpos
  have HB : Hid (∀ k (h : k < r.size), r[k].toNat = rest.getD k 0) := hb
  have HS : Hid (Small rest) := hs
  clear hb hs
  by_cases hc0 : c = 0
  · subst hc0
    go_enter Try.func18, Try.ntmps18
    go_wp2
    go_quiet (fail)
    go_wp2
    refine wp_loop_rounds 1 ?_
    rw [rounds_succ]
    go_wp2
    go_quiet (fail)
    go_wp2
    go_ret3
    exact ⟨by simp [bigV], ((Kept.refl w).drewN _).drewN _⟩
  · have hr0 : 0 < r.size := by omega
    have hf := HB.out 0 hr0
    have hz : rest.getD 0 0 ≠ 0 := by rcases hz with h | h; exact absurd h hc0; exact h
    obtain ⟨x0, hx0⟩ : ∃ x0, x0 = rest.getD 0 0 := ⟨_, rfl⟩
    rw [← hx0] at hf hz
    have hz8 : ((x0 : Int) == 0) = false := by simp; omega
    clear hx0
    go_enter Try.func18, Try.ntmps18
    go_wp2
    go_quiet (fail)
    go_wp2
    go_loopg [7, 34] c (fun g nv at_ wx => ∃ k N : Nat, k + g = c ∧ N = bigV (rest.take k) ∧ nv = .int .u64 (N : Nat) ∧ at_ = .int .i64 (k : Nat) ∧ Kept w wx)
    case atStart => exact ⟨0, 0, by omega, by simp [bigV], rfl, rfl, (Kept.refl w).drewN _⟩
    case round =>
      obtain ⟨k, N, hg, hN, rfl, rfl, hk⟩ := hrel
      have HG : Hid (k + gk = c) := hg
      have HN : Hid (N = bigV (rest.take k)) := hN
      cases gk with
      | zero =>
        obtain rfl : k = c := by omega
        clear hg hN
        go_wp2
        go_quiet (fail)
        go_wp2
        go_ret3
        exact ⟨by rw [← HN.out]; rfl, hk.drewN _⟩
      | succ g =>
        have hkr : k < r.size := by omega
        have hkl : k < rest.length := by omega
        have hf2 := HB.out k hkr
        obtain ⟨x, hx1⟩ : ∃ x, x = rest.getD k 0 := ⟨_, rfl⟩
        have hx2 : x < 256 := by rw [hx1]; exact HS.out.getD k
        rw [← hx1] at hf2
        have HX : Hid (x = rest.getD k 0) := hx1
        have hN2 : N < 72057594037927936 := by
          have h1 := bigV_lt (HS.out.take k)
          rw [List.length_take, Nat.min_eq_left (by omega)] at h1
          have h2 : 256 ^ k ≤ 256 ^ 7 := Nat.pow_le_pow_right (by omega) (by omega)
          rw [hN]; omega
        have e1 := or_byte N x hx2 hN2
        clear hx1 hN
        go_wp2
        go_roundg g
        case measure => omega
        case rel =>
          refine ⟨k + 1, N * 256 + x, by omega, ?_, by go_num, by go_num, hk⟩
          rw [bigV_take _ _ hkl, ← HN.out, ← HX.out]

/-- Bytes that begin with no key. -/
def NoKey (l : List Nat) : Prop := match l with
  | [] => True
  | c :: rest => 8 < c ∨ rest.length < c ∨ (0 < c ∧ rest.getD 0 0 = 0)

set_option maxRecDepth 100000 in
set_option maxHeartbeats 1000000 in
theorem unkey_not (l : List Nat) (hn : NoKey l) (hs : Small l) (hl : l.length ≤ 100000) (w : World) :
    Calls Try.prog 18 #[.string (bs l)] w fun e w' => e = .returned (.tuple #[.int .u64 0, .string ⟨#[]⟩, .bool false]) ∧ Kept w w' := by
  cases l with
  | nil =>
    have he : bs [] = ⟨#[]⟩ := rfl
    rw [he]
    go_enter Try.func18, Try.ntmps18
    go_wp2
    go_ret3
    exact ⟨rfl, Kept.refl w⟩
  | cons c rest =>
    have hne := bs_ne c rest
    have hsz : (bs (c :: rest)).size = rest.length + 1 := by rw [bs_size]; rfl
    have hc256 : c < 256 := hs c (by simp)
    have h0 : ∀ h : 0 < (bs (c :: rest)).size, (bs (c :: rest))[0].toNat = c := by intro h; rw [bs_get]; simp; omega
    have hx : (bs (c :: rest)).extract 1 (rest.length + 1) = bs rest := by
      have := bs_rest1 c rest
      rwa [hsz] at this
    have hrs := bs_size rest
    have hb : ∀ h : 0 < (bs rest).size, (bs rest)[0].toNat = rest.getD 0 0 := by
      intro h; rw [bs_get, Nat.mod_eq_of_lt (Small.getD (fun x hx => hs x (by simp [hx])) 0)]
    have hl2 : rest.length ≤ 100000 := by simp at hl; omega
    clear hl hs
    generalize bs (c :: rest) = s at *
    generalize bs rest = r at *
    have hpos : 0 < s.size := by omega
    have h0 := h0 hpos
    have HB : Hid (∀ h : 0 < r.size, r[0].toNat = rest.getD 0 0) := hb
    clear hb
    by_cases h8 : 8 < c
    · clear hn
      go_enter Try.func18, Try.ntmps18
      go_wp2
      go_quiet (fail)
      go_wp2
      go_ret3
      exact ⟨rfl, (Kept.refl w).drewN _⟩
    · by_cases h9 : rest.length < c
      · clear hn
        go_enter Try.func18, Try.ntmps18
        go_wp2
        go_quiet (fail)
        go_wp2
        go_ret3
        exact ⟨rfl, (Kept.refl w).drewN _⟩
      · have h10 : 0 < c ∧ rest.getD 0 0 = 0 := by
          rcases hn with h | h | h
          · exact absurd h h8
          · exact absurd h h9
          · exact h
        obtain ⟨hc0, hz⟩ := h10
        have hr0 : 0 < r.size := by omega
        have hf := HB.out hr0
        rw [hz] at hf
        clear hn hz
        go_enter Try.func18, Try.ntmps18
        go_wp2
        go_quiet (fail)
        go_wp2
        go_ret3
        exact ⟨rfl, (Kept.refl w).drewN _⟩
end Go.Proofs.Ythjjajlacicncaa
