/- A reader in memory: the walks of New, Err, Fail, Take. Conditions: the reader is a block that holds its bytes and its error. -/
import Derived.Test.YthlhnjjofefgcaaGreatDoorPWalkD
import Derived.Laws.IdiomStrings
namespace Go.Proofs.YthlhnjjofefgcaaGreatDoor.P
open Go.ChangeShapes Go.WideShapes Go.ChangeAt Go.RowKit

/-- A reader: its bytes, its error. -/
structure Rd (w : World) (b : Nat) (s : ByteArray) (e : Int) : Prop where
  out : w.heap[b]? = some (.cells #[.string s, .int .i64 e] 151)

/-- All blocks that were there are as they were, but one. -/
structure On (b : Nat) (w w' : World) : Prop where
  low : Below 0 w w'
  rest : ∀ i, i < w.heap.size → i ≠ b → w'.heap[i]? = w.heap[i]?

theorem On.refl (b : Nat) (w : World) : On b w w := ⟨Below.refl _ _, fun _ _ _ => rfl⟩
theorem On.size {B : Nat} {w w' : World} (h : On B w w') : w.heap.size ≤ w'.heap.size := h.low.size
theorem On.trans {B : Nat} {a b c : World} (h : On B a b) (k : On B b c) : On B a c :=
  ⟨h.low.trans k.low, fun i hi hb => (k.rest i (Nat.lt_of_lt_of_le hi h.size) hb).trans (h.rest i hi hb)⟩
theorem Kept.on {w w' : World} (h : Kept w w') (b : Nat) : On b w w' := ⟨h.out.mono (Nat.zero_le _), fun i hi _ => h.out.block i hi⟩
theorem On.set {b : Nat} {w w' : World} (h : On b w w') (i : Nat) (v : Value) : On b w (w'.setCell ⟨b, i, none⟩ v) :=
  ⟨h.low.setCell (Nat.zero_le _) _, fun k hk hb => (Below.heap_setCell w' ⟨b, i, none⟩ v k hb).trans (h.rest k hk hb)⟩
/-- What was there ahead of the block is as it was. -/
theorem On.kept {b : Nat} {w w1 w2 : World} (h : On b w1 w2) (k : Kept w w1) (hb : w.heap.size ≤ b) : Kept w w2 :=
  ⟨⟨h.low.os.trans k.out.os, h.low.tape.trans k.out.tape, h.low.output.trans k.out.output, Nat.le_trans k.size h.size,
    fun i hi => (h.rest i (Nat.lt_of_lt_of_le hi k.size) (by omega)).trans (k.out.block i hi)⟩⟩
theorem Kept.rd {w w' : World} (h : Kept w w') {b : Nat} {s : ByteArray} {e : Int} (k : Rd w b s e) : Rd w' b s e := ⟨h.block k.out⟩
theorem Rd.lt {w : World} {b : Nat} {s : ByteArray} {e : Int} (k : Rd w b s e) : b < w.heap.size := (Array.getElem?_eq_some_iff.1 k.out).1

theorem Rd.c0 {w : World} {b : Nat} {s : ByteArray} {e : Int} (k : Rd w b s e) : w.cell? ⟨b, 0, none⟩ = some (.string s) := by rw [cell_of_row w b 0 _ _ _ k.out]; rfl
theorem Rd.c1 {w : World} {b : Nat} {s : ByteArray} {e : Int} (k : Rd w b s e) : w.cell? ⟨b, 1, none⟩ = some (.int .i64 e) := by rw [cell_of_row w b 1 _ _ _ k.out]; rfl
theorem Rd.f0 {w : World} {b : Nat} {s : ByteArray} {e : Int} (k : Rd w b s e) (j : Nat) : w.frozen? ⟨b, j, none⟩ = false := frozen_of_row w b j _ _ k.out

theorem Rd.set0 {w : World} {b : Nat} {s : ByteArray} {e : Int} (k : Rd w b s e) (t : ByteArray) : Rd (w.setCell ⟨b, 0, none⟩ (.string t)) b t e :=
  ⟨by rw [heap_setCell_same w b 0 _ _ _ k.out]; rfl⟩
theorem Rd.set1 {w : World} {b : Nat} {s : ByteArray} {e : Int} (k : Rd w b s e) (x : Int) : Rd (w.setCell ⟨b, 1, none⟩ (.int .i64 x)) b s x :=
  ⟨by rw [heap_setCell_same w b 1 _ _ _ k.out]; rfl⟩

theorem new_walk (s : ByteArray) (w : World) :
    Calls Tryz.prog 76 #[.string s] w fun e w' => e = .returned (.pointer (some ⟨w.heap.size, 0, none⟩)) ∧ Rd w' w.heap.size s 0 ∧ Kept w w' := by
  go_enter Tryz.func76, Tryz.ntmps76
  go_wp2
  go_ret
  exact ⟨rfl, ⟨by show (w.heap.push _)[w.heap.size]? = _; simp⟩, (Kept.refl w).alloc _⟩

theorem err_nil (w : World) : Calls Tryz.prog 79 #[.pointer none] w fun e w' => e = .returned (.int .i64 2) ∧ w' = w := by
  go_enter Tryz.func79, Tryz.ntmps79
  go_wp2
  go_ret
  exact ⟨rfl, rfl⟩

theorem err_walk {b : Nat} {s : ByteArray} {x : Int} {w : World} (k : Rd w b s x) : Calls Tryz.prog 79 #[.pointer (some ⟨b, 0, none⟩)] w fun e w' => e = .returned (.int .i64 x) ∧ w' = w := by
  have c1 := k.c1
  go_enter Tryz.func79, Tryz.ntmps79
  go_wp2
  go_ret
  exact ⟨rfl, rfl⟩

theorem fail_nil (x : Int) (hx : (x == 0) = false) (w : World) : Calls Tryz.prog 96 #[.pointer none, .int .i64 x] w fun e w' => e = .returned (.tuple #[]) ∧ w' = w := by
  go_enter Tryz.func96, Tryz.ntmps96
  go_wp2_with (go_at_call 79; refine (err_nil _).mono ?_; rintro e w' ⟨rfl, rfl⟩)
  first | go_end0 | refine bodyPost_ret (results_none rfl _ _ _) rfl ?_
  exact ⟨rfl, rfl⟩

theorem fail_first (x : Int) (hx : (x == 0) = false) {b : Nat} {s : ByteArray} {w : World} (k : Rd w b s 0) :
    Calls Tryz.prog 96 #[.pointer (some ⟨b, 0, none⟩), .int .i64 x] w fun e w' => e = .returned (.tuple #[]) ∧ Rd w' b ⟨#[]⟩ x ∧ On b w w' := by
  have c0 := k.c0
  have f0 := k.f0 0
  have k1 := k.set0 ⟨#[]⟩
  have c1 := k1.c1
  have f1 := k1.f0 1
  have k2 := k1.set1 x
  have o1 : On b w ((w.setCell ⟨b, 0, none⟩ (.string ⟨#[]⟩)).setCell ⟨b, 1, none⟩ (.int .i64 x)) := ((On.refl b w).set 0 _).set 1 _
  have e13 := err_walk k
  go_enter Tryz.func96, Tryz.ntmps96
  go_wp2_with (go_at_call 79; refine e13.mono ?_; rintro e w' ⟨rfl, rfl⟩)
  first | go_end0 | refine bodyPost_ret (results_none rfl _ _ _) rfl ?_
  exact ⟨rfl, k2, o1⟩

theorem fail_later (x y : Int) (hx : (x == 0) = false) (hy : (y == 0) = false) {b : Nat} {s : ByteArray} {w : World} (k : Rd w b s y) :
    Calls Tryz.prog 96 #[.pointer (some ⟨b, 0, none⟩), .int .i64 x] w fun e w' => e = .returned (.tuple #[]) ∧ w' = w := by
  have e13 := err_walk k
  go_enter Tryz.func96, Tryz.ntmps96
  go_wp2_with (go_at_call 79; refine e13.mono ?_; rintro e w' ⟨rfl, rfl⟩)
  first | go_end0 | refine bodyPost_ret (results_none rfl _ _ _) rfl ?_
  exact ⟨rfl, rfl⟩
theorem bs_rest (l t : List Nat) : (bs (l ++ t)).extract l.length (bs (l ++ t)).size = bs t := by
  rw [bs_extract, bs_size, List.drop_left, List.length_append, Nat.add_sub_cancel_left, List.take_of_length_le (Nat.le_refl _)]

theorem bs_front (l t : List Nat) : (bs (l ++ t)).extract 0 l.length = bs l := by
  rw [bs_extract]; simp

set_option maxRecDepth 100000 in
theorem take_walk (l t : List Nat) (x : Int) {b : Nat} {w : World} (k : Rd w b (bs (l ++ t)) x) :
    Calls Tryz.prog 78 #[.pointer (some ⟨b, 0, none⟩), .int .i64 (l.length : Nat)] w fun e w' => e = .returned (.string (bs l)) ∧ Rd w' b (bs t) x ∧ On b w w' := by
  have c0 := k.c0
  have f0 := k.f0 0
  have h1 := bs_front l t
  have hx := bs_rest l t
  have hsz : (bs (l ++ t)).size = l.length + t.length := by rw [bs_size]; simp
  have k2 := k.set0 (bs t)
  have o2 : On b w (w.setCell ⟨b, 0, none⟩ (.string (bs t))) := (On.refl b w).set 0 _
  have K2 : Hid (Rd (w.setCell ⟨b, 0, none⟩ (.string (bs t))) b (bs t) x) := k2
  generalize bs (l ++ t) = s at *
  have hls : l.length ≤ s.size := by omega
  clear k2 k hsz
  generalize l.length = L at *
  go_enter Tryz.func78, Tryz.ntmps78
  go_wp2
  go_ret
  exact ⟨rfl, K2.out, o2⟩

/-- A text's bytes as a list of their own. -/
theorem bytes_of (w : World) (l : List Nat) (hs : Small l) : ∃ cap w', (convert 9 63 (.string (bs l))).run Tryz.prog w = .ok (.slice (some ⟨w.heap.size, 0, none⟩) l.length cap) w' ∧ Kept w w' ∧
    ∀ i, i < l.length → w'.cell? ⟨w.heap.size, i, none⟩ = some (.int .u8 (l.getD i 0 : Nat)) := by
  have h := run_bytes_of_string (P := Tryz.prog) w 9 63 5 (bs l) Tryz.underlying9 Tryz.underlying63 Tryz.underlying5
  rw [bs_size] at h
  refine ⟨_, _, h, ((Kept.refl w).drew).alloc _, fun i hi => ?_⟩
  have e := World.cell?_alloc_mark w.drew (bytesRow (bs l) (grownCap w l.length 0 5)) 5 ((bytesRow (bs l) (grownCap w l.length 0 5)).size, (bytesRow (bs l) (grownCap w l.length 0 5)).size + 1) i
  have hz : i < (bs l).data.size := by rw [← bs_size l] at hi; exact hi
  have e2 := bytesRow_at (bs l) (grownCap w l.length 0 5) i hz
  have e3 := bs_get l i (by rw [bs_size]; exact hi)
  rw [Nat.mod_eq_of_lt (hs.getD i)] at e3
  refine e.trans (e2.trans ?_)
  rw [← e3]
  rfl

theorem part_or8 (n i : Nat) (hn : n < 18446744073709551616) (x : Nat) (hx : n % 256 ^ (i + 1) = n % 256 ^ i + x * 256 ^ i) :
    bits .or .u64 ((n % 256 ^ i : Nat) : Int) (IntKind.u64.wrap ((x : Int) * 2 ^ (8 * i))) = ((n % 256 ^ (i + 1) : Nat) : Int) := by
  have e : (256 : Nat) ^ i = 2 ^ (8 * i) := by rw [Nat.pow_mul]
  have h1 : n % 256 ^ i < 2 ^ (8 * i) := by rw [← e]; exact Nat.mod_lt _ (by rw [e]; exact Nat.two_pow_pos _)
  have h2 : n % 256 ^ (i + 1) ≤ n := Nat.mod_le _ _
  have h3 : x * 2 ^ (8 * i) < 18446744073709551616 := by rw [← e]; omega
  have h4 : IntKind.u64.wrap ((x : Int) * 2 ^ (8 * i)) = ((x * 2 ^ (8 * i) : Nat) : Int) := by
    have : ((x * 2 ^ (8 * i) : Nat) : Int) = (x : Int) * 2 ^ (8 * i) := by simp
    rw [IntKind.wrap_u64]
    omega
  rw [h4, bits_or_u64_nat _ _ (by omega) h3, or_add _ _ _ h1, hx, ← e]
end Go.Proofs.YthlhnjjofefgcaaGreatDoor.P
