/- The walks of the reference's reader: Take and Fixed where so many bytes are left. Conditions: no error is noted, as many bytes are left as are read; bytes are below 256. -/
import Derived.Test.YtgpjnmimicoeoaaWalkH
namespace Go.Proofs.Ytgpjnmimicoeoaa
open Go.ChangeShapes Go.WideShapes Go.ChangeAt Go.RowKit
attribute [local go_sem ↓] Go.wp_at_zero Go.wp_at_succ

/-- A reference's reader in memory. -/
structure Rr (w : World) (b : Nat) (s : ByteArray) (e : Int) : Prop where
  out : w.heap[b]? = some (.cells #[.string s, .int .i64 e] 53)

theorem Kept.rr {w w' : World} (h : Kept w w') {b : Nat} {s : ByteArray} {e : Int} (k : Rr w b s e) : Rr w' b s e := ⟨h.block k.out⟩
theorem Rr.alloc (w : World) (s : ByteArray) (e : Int) : Rr (w.alloc (.cells #[.string s, .int .i64 e] 53)) w.heap.size s e :=
  ⟨by show (w.heap.push _)[w.heap.size]? = _; simp⟩
theorem Rr.c0 {w : World} {b : Nat} {s : ByteArray} {e : Int} (k : Rr w b s e) : w.cell? ⟨b, 0, none⟩ = some (.string s) := by rw [cell_of_row w b 0 _ _ _ k.out]; rfl
theorem Rr.c1 {w : World} {b : Nat} {s : ByteArray} {e : Int} (k : Rr w b s e) : w.cell? ⟨b, 1, none⟩ = some (.int .i64 e) := by rw [cell_of_row w b 1 _ _ _ k.out]; rfl
theorem Rr.fz {w : World} {b : Nat} {s : ByteArray} {e : Int} (k : Rr w b s e) (j : Nat) : w.frozen? ⟨b, j, none⟩ = false := frozen_of_row w b j _ _ k.out
theorem Rr.lt {w : World} {b : Nat} {s : ByteArray} {e : Int} (k : Rr w b s e) : b < w.heap.size := (Array.getElem?_eq_some_iff.1 k.out).1
theorem Rr.set0 {w : World} {b : Nat} {s : ByteArray} {e : Int} (k : Rr w b s e) (t : ByteArray) : Rr (w.setCell ⟨b, 0, none⟩ (.string t)) b t e :=
  ⟨by rw [heap_setCell_same w b 0 _ _ _ k.out]; rfl⟩
theorem Rr.set1 {w : World} {b : Nat} {s : ByteArray} {e : Int} (k : Rr w b s e) (x : Int) : Rr (w.setCell ⟨b, 1, none⟩ (.int .i64 x)) b s x :=
  ⟨by rw [heap_setCell_same w b 1 _ _ _ k.out]; rfl⟩
theorem Rr.ready {w : World} {b : Nat} {s : ByteArray} {e : Int} (k : Rr w b s e) (t : ByteArray) :
    (w.cell? ⟨b, 0, none⟩ = some (.string s) ∧ w.frozen? ⟨b, 0, none⟩ = false) ∧
    (w.setCell ⟨b, 0, none⟩ (.string t)).cell? ⟨b, 1, none⟩ = some (.int .i64 e) ∧ (w.setCell ⟨b, 0, none⟩ (.string t)).frozen? ⟨b, 1, none⟩ = false :=
  have k1 := k.set0 t
  ⟨⟨k.c0, k.fz 0⟩, k1.c1, k1.fz 1⟩
theorem Rr.fill {w : World} {b : Nat} {s : ByteArray} {e : Int} (k : Rr w b s e) (t : ByteArray) (x : Int) :
    Rr ((w.setCell ⟨b, 0, none⟩ (.string t)).setCell ⟨b, 1, none⟩ (.int .i64 x)) b t x := (k.set0 t).set1 x

set_option maxRecDepth 100000 in
set_option maxHeartbeats 1000000 in
theorem rtake_walk (S A B : ByteArray) (n : Nat) (hn : n ≤ S.size) (hA : S.extract n S.size = A) (hB : S.extract 0 n = B) (w : World) :
    Calls Try.prog 37 #[.agg #[.string S, .int .i64 0], .int .i64 (n : Nat)] w fun e w' => e = .returned (.tuple #[.agg #[.string A, .int .i64 0], .string B]) ∧ Kept w w' := by
  have i0 : (0 : Int) ≤ (n : Int) := by omega
  have i1 : (n : Int) ≤ (S.size : Int) := by omega
  have i2 : ¬ (S.size : Int) < (n : Int) := by omega
  have Q1 := Rr.alloc (w.alloc (.cells #[.string S, .int .i64 0] 53)) A 0
  rw [show (w.alloc (.cells #[.string S, .int .i64 0] 53)).heap.size = w.heap.size + 1 by simp] at Q1
  have hk : Kept w ((w.alloc (.cells #[.string S, .int .i64 0] 53)).alloc (.cells #[.string A, .int .i64 0] 53)).drew := (((Kept.refl w).alloc _).alloc _).drew
  go_enter Try.func37, Try.ntmps37
  go_wp2
  go_region_held3 (fun W => W.cell? ⟨w.heap.size, 0, none⟩ = some (.string S)) (go_keep) (fail)
  go_wp2
  refine bodyPost_ret (v := .tuple #[.agg #[.string A, .int .i64 0], .string B]) ?_ rfl ⟨rfl, hk⟩
  exact results_two (p := 4) (u := 5) (ty := 53) rfl _ _ (w.heap.size + 1) 53 _ (0, 0) _ rfl Q1.out Try.underlying53 rfl size53

theorem lowV_drop (m : List Nat) (i : Nat) (h : i < m.length) : lowV (m.drop i) = m.getD i 0 + 256 * lowV (m.drop (i + 1)) := by
  rw [List.drop_eq_getElem_cons h, lowV]
  simp [List.getD, List.getElem?_eq_getElem h]

set_option maxRecDepth 100000 in
set_option maxHeartbeats 1000000 in
theorem rrfixed_walk (k : Nat) (hk8 : k ≤ 8) (l : List Nat) (hl : Small l) (hn : k ≤ l.length) (w : World) :
    Calls Try.prog 36 #[.agg #[.string (bs l), .int .i64 0], .int .i64 (k : Nat)] w fun e w' => e = .returned (.tuple #[.agg #[.string (bs (l.drop k)), .int .i64 0], .int .u64 (lowV (l.take k) : Nat)]) ∧ Kept w w' := by
  have h23 := rtake_walk (bs l) (bs (l.drop k)) (bs (l.take k)) k (by rw [bs_size]; exact hn) (by rw [bs_extract, bs_size, List.take_of_length_le (by simp)]) (by rw [bs_extract]; simp)
  have hm : Small (l.take k) := hl.take k
  have hz : (bs (l.take k)).size = k := by rw [bs_size]; simp; omega
  have hlen : (l.take k).length = k := by simp; omega
  have hget : ∀ (i : Nat) (h : i < (bs (l.take k)).size), (bs (l.take k))[i].toNat = (l.take k).getD i 0 := fun i h => by rw [bs_get, Nat.mod_eq_of_lt (hm.getD i)]
  generalize l.take k = m at *
  generalize bs (l.drop k) = A at *
  generalize bs l = S at *
  generalize hs : bs m = B at *
  have hlow : ∀ i, lowV (m.drop i) < 256 ^ (k - i) := by
    intro i
    have := lowV_lt (hm.drop i)
    rwa [List.length_drop, hlen] at this
  clear hs
  have HV : Hid (lowV m = lowV (m.drop 0)) := rfl
  go_enter Try.func36, Try.ntmps36
  go_wp2_with (go_at_call 37; refine (h23 _).mono ?_; rintro e w1 ⟨rfl, q1⟩; have R1 := q1.rr (((Kept.refl _).alloc (.cells #[.string ⟨#[]⟩, .int .i64 0] 53)).rr (Rr.alloc w S 0)); obtain ⟨⟨g0, f0⟩, g1, f1⟩ := R1.ready A; have R2 := R1.fill A 0; have Z0 := Rr.alloc (w.alloc (.cells #[.string S, .int .i64 0] 53)) ⟨#[]⟩ 0; rw [show (w.alloc (.cells #[.string S, .int .i64 0] 53)).heap.size = w.heap.size + 1 by simp] at Z0; have Z1 := q1.rr Z0; have Z2 : Rr ((w1.setCell ⟨w.heap.size, 0, none⟩ (.string A)).setCell ⟨w.heap.size, 1, none⟩ (.int .i64 0)) (w.heap.size + 1) ⟨#[]⟩ 0 := ⟨(heap_setCell_other _ ⟨w.heap.size, 1, none⟩ (w.heap.size + 1) _ (by show w.heap.size + 1 ≠ w.heap.size; omega)).trans ((heap_setCell_other _ ⟨w.heap.size, 0, none⟩ (w.heap.size + 1) _ (by show w.heap.size + 1 ≠ w.heap.size; omega)).trans Z1.out)⟩; have hk2 : Kept w ((w1.setCell ⟨w.heap.size, 0, none⟩ (.string A)).setCell ⟨w.heap.size, 1, none⟩ (.int .i64 0)) := (((((Kept.refl w).alloc _).alloc _).trans q1).set (Nat.le_refl _) _).set (Nat.le_refl _) _)
  generalize (w1.setCell ⟨w.heap.size, 0, none⟩ (.string A)).setCell ⟨w.heap.size, 1, none⟩ (.int .i64 0) = W at *
  have c0 := R2.c0
  have c1 := R2.c1
  obtain ⟨⟨d0, e0⟩, d1, e1⟩ := Z2.ready A
  have Q2 : Hid (Rr _ (w.heap.size + 1) A 0) := Z2.fill A 0
  have hk3 : Hid (Kept w ((W.setCell ⟨w.heap.size + 1, 0, none⟩ (.string A)).setCell ⟨w.heap.size + 1, 1, none⟩ (.int .i64 0))) := (hk2.set (by show w.heap.size ≤ w.heap.size + 1; omega) _).set (by show w.heap.size ≤ w.heap.size + 1; omega) _
  clear R1 R2 Z0 Z1 Z2 g0 f0 g1 f1 q1 hk2
  have HL : Hid (∀ i, lowV (m.drop i) < 256 ^ (k - i)) := hlow
  have HG : Hid (∀ (i : Nat) (h : i < B.size), B[i].toNat = m.getD i 0) := hget
  have hk0 : lowV (m.drop k) = 0 := by rw [List.drop_of_length_le (by omega)]; rfl
  clear hlow hget
  go_loopg [8, 9] k (fun g nv iv wx => g ≤ k ∧ nv = .int .u64 (lowV (m.drop g) : Nat) ∧ iv = .int .i64 ((g : Int) - 1) ∧ wx = W)
  case atStart => exact ⟨Nat.le_refl _, by rw [hk0]; rfl, by rw [← hz], rfl⟩
  case round =>
    obtain ⟨hg, rfl, rfl, rfl⟩ := hrel
    clear hk0
    cases gk with
    | zero =>
      generalize lowV (m.drop 0) = V at *
      clear HL HG
      go_wp2
      refine bodyPost_ret (v := .tuple #[.agg #[.string A, .int .i64 0], .int .u64 (V : Nat)]) ?_ rfl ⟨by rw [HV.out], hk3.out⟩
      exact results_two (p := 4) (u := 5) (ty := 53) rfl _ _ (w.heap.size + 1) 53 _ (0, 0) _ rfl Q2.out.out Try.underlying53 rfl size53
    | succ g =>
      have hgB : g < B.size := by omega
      have hb := HG.out g hgB
      have hv := lowV_drop m g (by omega)
      have hl1 := HL.out g
      have hp : (256 : Nat) ^ (k - g) ≤ 256 ^ 8 := Nat.pow_le_pow_right (by omega) (by omega)
      have hl2 : lowV (m.drop g) < 18446744073709551616 := by omega
      have hbb : B[g].toNat < 256 := UInt8.toNat_lt _
      rw [← hb] at hv
      clear hl1 hp hb
      have HVV : Hid (lowV (m.drop g) = lowV (m.drop g)) := rfl
      generalize lowV (m.drop (g + 1)) = V1 at *
      obtain ⟨V0, hV0⟩ : ∃ V0, V0 = lowV (m.drop g) := ⟨_, rfl⟩
      rw [← hV0] at hv hl2
      have HV0 : Hid (V0 = lowV (m.drop g)) := hV0
      clear hV0 HVV
      go_wp2
      go_roundg g
      case measure => omega
      case rel => exact ⟨by omega, by rw [← HV0.out]; go_num, by go_num, rfl⟩
end Go.Proofs.Ytgpjnmimicoeoaa
