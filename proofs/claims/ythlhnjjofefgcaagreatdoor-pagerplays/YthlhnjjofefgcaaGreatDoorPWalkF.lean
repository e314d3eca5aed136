/- The walks of a reader's Take and Fixed, whatever is left and whether an error is noted: what is read, what is left, the error. Conditions: the reader is a block that holds its bytes and its error, with nothing left behind an error; bytes are below 256. -/
import Derived.Test.YthlhnjjofefgcaaGreatDoorPWalkE
import Derived.Test.YthlhnjjofefgcaaGreatDoorPSector
namespace Go.Proofs.YthlhnjjofefgcaaGreatDoor.P
open Go.ChangeShapes Go.WideShapes Go.ChangeAt Go.RowKit

set_option maxRecDepth 100000 in
theorem take_any (n : Nat) (l : List Nat) (x : Int) (hf : Fine l x) {m l' : List Nat} {x' : Int} (e : takeS n l x = (m, l', x')) {b : Nat} {w : World} (k : Rd w b (bs l) x) :
    Calls Tryz.prog 78 #[.pointer (some ⟨b, 0, none⟩), .int .i64 (n : Nat)] w fun e w' => e = .returned (.string (bs m)) ∧ Rd w' b (bs l') x' ∧ On b w w' := by
  by_cases h : n ≤ l.length
  · unfold takeS at e
    rw [if_pos h] at e
    injection e with e1 e2; injection e2 with e2 e3; subst e1 e2 e3
    have hl : (l.take n).length = n := by simp; omega
    have := take_walk (l.take n) (l.drop n) x (b := b) (w := w) (by rw [List.take_append_drop]; exact k)
    rw [hl] at this
    exact this
  · unfold takeS at e
    rw [if_neg h] at e
    injection e with e1 e2; injection e2 with e2 e3; subst e1 e2 e3
    have c0 := k.c0
    have hz := bs_size l
    rcases hf with rfl | ⟨rfl, rfl⟩
    · have f1 := fail_first 2 rfl k
      clear k
      generalize bs l = s at *
      have hs : s.size < n := by omega
      clear hz h
      go_enter Tryz.func78, Tryz.ntmps78
      go_wp2_with (go_at_call 96; refine f1.mono ?_; rintro e w1 ⟨rfl, k1, o1⟩)
      go_ret
      exact ⟨rfl, k1, o1⟩
    · have f1 := fail_later 2 2 rfl rfl k
      have K : Hid (Rd w b (bs []) 2) := k
      clear k
      generalize hs0 : bs [] = s at *
      have HS : Hid (bs [] = s) := hs0
      clear hs0
      have hz' : s.size = 0 := hz
      have h' : ¬ n ≤ 0 := h
      have hs : s.size < n := by omega
      clear hz' h'
      clear hz h
      go_enter Tryz.func78, Tryz.ntmps78
      go_wp2_with (go_at_call 96; refine f1.mono ?_; rintro e w1 ⟨rfl, hw⟩; rw [hw]; clear hw)
      go_ret
      exact ⟨by rw [← HS.out]; rfl, K.out, On.refl _ _⟩

set_option maxRecDepth 100000 in
set_option maxHeartbeats 1000000 in
theorem rfixed_any (q : Int) (l : List Nat) (hl : Small l) (x : Int) (hf : Fine l x) {m l' : List Nat} {x' : Int} (e : takeS (kOf q) l x = (m, l', x')) {b : Nat} {w : World} (r : Rd w b (bs l) x) :
    Calls Tryz.prog 77 #[.pointer (some ⟨b, 0, none⟩), .int .i64 q] w fun e w' => e = .returned (.int .u64 ((lowV m : Nat) : Int)) ∧ Rd w' b (bs l') x' ∧ On b w w' := by
  have h36 := within_walk q
  have hk8 := kOf_le q
  have h21 := take_any (kOf q) l x hf e r
  obtain ⟨hsm, _, hm, _, _⟩ := takeS_small hl e
  clear e hf
  have hfl := fixL_lowV hsm
  have hlt := lowV_lt hsm
  have hn : lowV m < 18446744073709551616 := by
    have : (256 : Nat) ^ m.length ≤ 256 ^ 8 := Nat.pow_le_pow_right (by omega) (by omega)
    omega
  have hfa := fixL_at m.length (lowV m)
  have HC : Hid (∀ w, ∃ cap w', (convert 9 63 (.string (bs m))).run Tryz.prog w = .ok (.slice (some ⟨w.heap.size, 0, none⟩) m.length cap) w' ∧ Kept w w' ∧ Hid (∀ i, i < m.length → w'.cell? ⟨w.heap.size, i, none⟩ = some (.int .u8 ((lowV m / 256 ^ i % 256 : Nat) : Int)))) := by
    intro w
    obtain ⟨cap, w', h1, h2, h3⟩ := bytes_of w m hsm
    exact ⟨cap, w', h1, h2, fun i hi => by have := h3 i (by omega); rwa [← hfa i hi, hfl]⟩
  have HM : Hid (lowV m = lowV m % 256 ^ m.length) := (Nat.mod_eq_of_lt hlt).symm
  have hlen : m.length ≤ 8 := by omega
  clear hsm hfl hfa hlt hm
  generalize kOf q = kq at *
  generalize m.length = k at *
  generalize lowV m = n at *
  generalize bs m = s at *
  have hb := r.lt
  go_enter Tryz.func77, Tryz.ntmps77
  go_wp2_with (first
    | (go_at_call 88; refine (h36 _).mono ?_; rintro e w' ⟨rfl, hw⟩; rw [hw]; clear hw)
    | (go_at_call 78; refine h21.mono ?_; rintro e w3 ⟨rfl, r3, o3⟩; obtain ⟨cap, w4, hcv, hk4, hcell⟩ := HC.out w3))
  go_loopg [5, 14] k (fun g nv iv wx => ∃ i A : Nat, i + g = k ∧ A = n % 256 ^ i ∧ nv = .int .u64 (A : Nat) ∧ iv = .int .i64 (i : Nat) ∧ wx = w4)
  case atStart => exact ⟨0, 0, by omega, by rw [Nat.pow_zero, Nat.mod_one], rfl, rfl, rfl⟩
  case round =>
    obtain ⟨i, A, hg, hA, rfl, rfl, rfl⟩ := hrel
    have HG : Hid (i + gk = k) := hg
    have HA : Hid (A = n % 256 ^ i) := hA
    clear hA
    cases gk with
    | zero =>
      obtain rfl : i = k := by omega
      clear hg
      go_wp2
      go_ret
      refine ⟨by rw [HM.out, ← HA.out]; rfl, hk4.rd r3, o3.trans (hk4.on _)⟩
    | succ g =>
      have hik : i < k := by omega
      have hc := hcell.out i hik
      have p1 := mod_step n (256 ^ i) 256
      rw [← Nat.pow_succ] at p1
      have p3 := part_or8 n i hn (n / 256 ^ i % 256) p1
      rw [← HA.out] at p3
      obtain ⟨x, hx⟩ : ∃ x, x = n / 256 ^ i % 256 := ⟨_, rfl⟩
      rw [← hx] at hc p3
      have hx2 : x < 256 := by omega
      obtain ⟨B, hB⟩ : ∃ B, B = n % 256 ^ (i + 1) := ⟨_, rfl⟩
      rw [← hB] at p3
      have HB : Hid (B = n % 256 ^ (i + 1)) := hB
      clear hg p1 hx hB
      go_wp2
      go_roundg g
      case measure => omega
      case rel => exact ⟨i + 1, B, by have := HG.out; omega, HB.out, rfl, by go_num, rfl⟩
end Go.Proofs.YthlhnjjofefgcaaGreatDoor.P
