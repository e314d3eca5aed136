/- The walks of a reader's Take, Fixed and Text: what is read, and what is left. Conditions: the reader is nil, or holds the bytes that are named, without an error; numbers are ones of 64 bits; a text has 100000 bytes at most. -/
import Derived.Test.YthjjajlacicncaaWalkJ
import Derived.Laws.IdiomStrings
namespace Go.Proofs.Ythjjajlacicncaa
open Go.ChangeShapes Go.WideShapes Go.ChangeAt Go.RowKit

theorem take_nil (q : Int) (w : World) : Calls Try.prog 21 #[.pointer none, .int .i64 q] w fun e w' => e = .returned (.string ⟨#[]⟩) ∧ w' = w := by
  go_enter Try.func21, Try.ntmps21
  go_wp2_with (go_at_call 32; refine (fail_nil 2 rfl _).mono ?_; rintro e w' ⟨rfl, rfl⟩)
  go_ret
  exact ⟨rfl, rfl⟩

theorem bs_front (l t : List Nat) : (bs (l ++ t)).extract 0 l.length = bs l := by
  rw [bs_extract]; simp

set_option maxRecDepth 100000 in
theorem take_walk (l t : List Nat) (x : Int) {b : Nat} {w : World} (k : Rd w b (bs (l ++ t)) x) :
    Calls Try.prog 21 #[.pointer (some ⟨b, 0, none⟩), .int .i64 (l.length : Nat)] w fun e w' => e = .returned (.string (bs l)) ∧ Rd w' b (bs t) x ∧ On b w w' := by
  have c0 := k.c0
  have f0 := k.f0 0
  have h1 := bs_front l t
  have hx := bs_rest l t
  have hsz : (bs (l ++ t)).size = l.length + t.length := by rw [bs_size]; simp
  have k2 := k.set0 (bs t)
  have o2 : On b w (w.setCell ⟨b, 0, none⟩ (.string (bs t))) := ⟨(Below.refl b w).setCell (Nat.le_refl _) _⟩
  have K2 : Hid (Rd (w.setCell ⟨b, 0, none⟩ (.string (bs t))) b (bs t) x) := k2
  generalize bs (l ++ t) = s at *
  have hls : l.length ≤ s.size := by omega
  clear k2 k hsz
  generalize l.length = L at *
  go_enter Try.func21, Try.ntmps21
  go_wp2
  go_ret
  exact ⟨rfl, K2.out, o2⟩

theorem text_nil (q : Int) (w : World) : Calls Try.prog 25 #[.pointer none, .int .i64 q] w fun e w' => e = .returned (.string ⟨#[]⟩) ∧ w' = w := by
  by_cases h : q < 0
  · go_enter Try.func25, Try.ntmps25
    go_wp2_with (first
      | (go_at_call 11; refine (num_nil _ _).mono ?_; rintro e w' ⟨rfl, rfl⟩)
      | (go_at_call 32; refine (fail_nil 4 rfl _).mono ?_; rintro e w' ⟨rfl, rfl⟩)
      | (go_at_call 21; refine (take_nil _ _).mono ?_; rintro e w' ⟨rfl, rfl⟩))
    go_ret
    exact ⟨rfl, rfl⟩
  · go_enter Try.func25, Try.ntmps25
    go_wp2_with (first
      | (go_at_call 11; refine (num_nil _ _).mono ?_; rintro e w' ⟨rfl, rfl⟩)
      | (go_at_call 21; refine (take_nil _ _).mono ?_; rintro e w' ⟨rfl, rfl⟩))
    go_ret
    exact ⟨rfl, rfl⟩

set_option maxRecDepth 100000 in
theorem rtext_walk (l t : List Nat) (hl : l.length ≤ 300) (ht : t.length ≤ 10000) {b : Nat} {w : World} (k : Rd w b (bs (numL l.length ++ (l ++ t))) 0) :
    Calls Try.prog 25 #[.pointer (some ⟨b, 0, none⟩), .int .i64 300] w fun e w' => e = .returned (.string (bs l)) ∧ Rd w' b (bs t) 0 ∧ On b w w' := by
  have h11 := rnum_walk l.length (by omega) (l ++ t) (by simp; omega) 300 hl k
  have h21 := @take_walk l t 0 b
  generalize bs (l ++ t) = s2 at *
  generalize l.length = L at *
  go_enter Try.func25, Try.ntmps25
  go_wp2_with (first
    | (go_at_call 11; refine h11.mono ?_; rintro e w1 ⟨rfl, k1, o1⟩)
    | (go_at_call 21; refine (h21 k1).mono ?_; rintro e w2 ⟨rfl, k2, o2⟩))
  go_ret
  exact ⟨rfl, k2, o1.trans o2⟩

/-- A text's bytes as a list of their own. -/
theorem bytes_of (w : World) (l : List Nat) (hs : Small l) : ∃ cap w', (convert 9 57 (.string (bs l))).run Try.prog w = .ok (.slice (some ⟨w.heap.size, 0, none⟩) l.length cap) w' ∧ Kept w w' ∧
    ∀ i, i < l.length → w'.cell? ⟨w.heap.size, i, none⟩ = some (.int .u8 (l.getD i 0 : Nat)) := by
  have h := run_bytes_of_string (P := Try.prog) w 9 57 5 (bs l) Try.underlying9 Try.underlying57 Try.underlying5
  rw [bs_size] at h
  refine ⟨_, _, h, ((Kept.refl w).drew).alloc _, fun i hi => ?_⟩
  have e := World.cell?_alloc_mark w.drew (bytesRow (bs l) (grownCap w l.length 0 5)) 5 ((bytesRow (bs l) (grownCap w l.length 0 5)).size, (bytesRow (bs l) (grownCap w l.length 0 5)).size + 1) i
  have hz : i < (bs l).data.size := by rw [← bs_size l] at hi; exact hi
  have e2 := bytesRow_at (bs l) (grownCap w l.length 0 5) i hz
  have e3 := bs_get l i (by rw [bs_size]; exact hi)
  rw [Nat.mod_eq_of_lt (hs.getD i)] at e3
  refine e.trans (e2.trans ?_)
  rw [← e3]
  rfl

set_option maxRecDepth 100000 in
theorem rfixed_nil (q : Int) (w : World) : Calls Try.prog 23 #[.pointer none, .int .i64 q] w fun e w' => e = .returned (.int .u64 0) ∧ Kept w w' := by
  have h36 := within_walk q
  generalize kOf q = k at *
  obtain ⟨cap, w4, hcv, hk4, _⟩ := bytes_of w [] (fun x hx => by cases hx)
  have hcv : (convert 9 57 (.string ⟨#[]⟩)).run Try.prog w = .ok (.slice (some ⟨w.heap.size, 0, none⟩) 0 cap) w4 := hcv
  go_enter Try.func23, Try.ntmps23
  go_wp2_with (first
    | (go_at_call 36; refine (h36 _).mono ?_; rintro e w' ⟨rfl, hw⟩; rw [hw]; clear hw)
    | (go_at_call 21; refine (take_nil _ _).mono ?_; rintro e w' ⟨rfl, hw⟩; rw [hw]; clear hw))
  refine wp_loop_rounds 1 ?_
  rw [rounds_succ]
  go_wp2
  go_ret
  exact ⟨rfl, hk4⟩

theorem part_or8 (n i : Nat) (hn : n < 18446744073709551616) (x : Nat) (hx : n % 256 ^ (i + 1) = n % 256 ^ i + x * 256 ^ i) :
    bits .or .u64 ((n % 256 ^ i : Nat) : Int) (IntKind.u64.wrap ((x : Int) * 2 ^ (8 * i))) = ((n % 256 ^ (i + 1) : Nat) : Int) := by
  have e : (256 : Nat) ^ i = 2 ^ (8 * i) := by rw [Nat.pow_mul]
  have h1 : n % 256 ^ i < 2 ^ (8 * i) := by rw [← e]; exact Nat.mod_lt _ (by rw [e]; exact Nat.two_pow_pos _)
  have h2 : n % 256 ^ (i + 1) ≤ n := Nat.mod_le _ _
  have h3 : x * 2 ^ (8 * i) < 18446744073709551616 := by rw [← e]; omega
  have h4 : IntKind.u64.wrap ((x : Int) * 2 ^ (8 * i)) = ((x * 2 ^ (8 * i) : Nat) : Int) := by
    have : ((x * 2 ^ (8 * i) : Nat) : Int) = (x : Int) * 2 ^ (8 * i) := by simp
    rw [IntKind.wrap_u64]
    omega
  rw [h4, bits_or_u64_nat _ _ (by omega) h3, or_add _ _ _ h1, hx, ← e]

theorem rtake_in (n k : Nat) {b : Nat} {w : World} (r : Rd w b (bs (fixL n k)) 0) :
    Calls Try.prog 21 #[.pointer (some ⟨b, 0, none⟩), .int .i64 (k : Nat)] w fun e w' => e = .returned (.string (bs (fixL n k))) ∧ Rd w' b ⟨#[]⟩ 0 ∧ On b w w' := by
  have := take_walk (fixL n k) [] 0 (b := b) (w := w) (by rw [List.append_nil]; exact r)
  rw [fixL_length] at this
  exact this

set_option maxRecDepth 100000 in
set_option maxHeartbeats 1000000 in
theorem rfixed_walk (n : Nat) (hn : n < 18446744073709551616) (q : Int) {b : Nat} {w : World} (r : Rd w b (bs (fixL n (kOf q))) 0) :
    Calls Try.prog 23 #[.pointer (some ⟨b, 0, none⟩), .int .i64 q] w fun e w' => e = .returned (.int .u64 ((n % 256 ^ kOf q : Nat) : Int)) ∧ Rd w' b ⟨#[]⟩ 0 ∧ On b w w' := by
  have h36 := within_walk q
  have hk8 := kOf_le q
  have h21 := rtake_in n (kOf q) r
  have hsm := fixL_small n (kOf q)
  have hfl := fixL_length (kOf q) n
  have hfa := fixL_at (kOf q) n
  generalize kOf q = k at *
  have HC : Hid (∀ w, ∃ cap w', (convert 9 57 (.string (bs (fixL n k)))).run Try.prog w = .ok (.slice (some ⟨w.heap.size, 0, none⟩) k cap) w' ∧ Kept w w' ∧ Hid (∀ i, i < k → w'.cell? ⟨w.heap.size, i, none⟩ = some (.int .u8 ((n / 256 ^ i % 256 : Nat) : Int)))) := by
    intro w
    obtain ⟨cap, w', h1, h2, h3⟩ := bytes_of w (fixL n k) hsm
    rw [hfl] at h1
    exact ⟨cap, w', h1, h2, fun i hi => by have := h3 i (by omega); rwa [hfa i hi] at this⟩
  clear hsm hfl hfa
  generalize bs (fixL n k) = s at *
  have hb := r.lt
  go_enter Try.func23, Try.ntmps23
  go_wp2_with (first
    | (go_at_call 36; refine (h36 _).mono ?_; rintro e w' ⟨rfl, hw⟩; rw [hw]; clear hw)
    | (go_at_call 21; refine h21.mono ?_; rintro e w3 ⟨rfl, r3, o3⟩; obtain ⟨cap, w4, hcv, hk4, hcell⟩ := HC.out w3))
  go_loopg [5, 14] k (fun g nv iv wx => ∃ i A : Nat, i + g = k ∧ A = n % 256 ^ i ∧ nv = .int .u64 (A : Nat) ∧ iv = .int .i64 (i : Nat) ∧ wx = w4)
  case atStart => exact ⟨0, 0, by omega, by rw [Nat.pow_zero, Nat.mod_one], rfl, rfl, rfl⟩
  case round =>
    obtain ⟨i, A, hg, hA, rfl, rfl, rfl⟩ := hrel
    have HG : Hid (i + gk = k) := hg
    have HA : Hid (A = n % 256 ^ i) := hA
    clear hA
    cases gk with
    | zero =>
      obtain rfl : i = k := by omega
      clear hg
      go_wp2
      go_ret
      refine ⟨by rw [← HA.out]; rfl, hk4.rd r3, o3.trans (hk4.on (by have := o3.size; omega))⟩
    | succ g =>
      have hik : i < k := by omega
      have hc := hcell.out i hik
      have p1 := mod_step n (256 ^ i) 256
      rw [← Nat.pow_succ] at p1
      have p3 := part_or8 n i hn (n / 256 ^ i % 256) p1
      rw [← HA.out] at p3
      obtain ⟨x, hx⟩ : ∃ x, x = n / 256 ^ i % 256 := ⟨_, rfl⟩
      rw [← hx] at hc p3
      have hx2 : x < 256 := by omega
      obtain ⟨B, hB⟩ : ∃ B, B = n % 256 ^ (i + 1) := ⟨_, rfl⟩
      rw [← hB] at p3
      have HB : Hid (B = n % 256 ^ (i + 1)) := hB
      clear hg p1 hx hB
      go_wp2
      go_roundg g
      case measure => omega
      case rel => exact ⟨i + 1, B, by have := HG.out; omega, HB.out, rfl, by go_num, rfl⟩
end Go.Proofs.Ythjjajlacicncaa
