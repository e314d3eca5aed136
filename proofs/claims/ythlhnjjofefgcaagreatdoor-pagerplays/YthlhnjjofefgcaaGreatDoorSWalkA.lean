/- Places: what they are in plain words, and in memory; the walks of New, Many, Left, has, bit and Used. Conditions: no more than 4096 places. -/
import Derived.Test.YthlhnjjofefgcaaGreatDoorSMem
namespace Go.Proofs.YthlhnjjofefgcaaGreatDoor.S
open Go.ChangeShapes Go.WideShapes Go.ChangeAt Go.RowKit

/-- Words as cells. -/
def wsCells (ws : List Nat) : List Value := ws.map fun x => Value.int .u64 (x : Nat)

/-- Places in memory: how many, how many are free, which words; the words' value. -/
structure PAt (B : Nat) (w : World) (b m l : Nat) (ws : List Nat) (v : Value) : Prop where
  blk : w.heap[b]? = some (.cells #[.int .i64 (m : Nat), .int .i64 (l : Nat), v] 94)
  row : w.ownsRow B 50 1 v ws.length (wsCells ws)
  leb : B ≤ b
  few : m ≤ 4096
  free : l ≤ m
  long : ws.length ≤ 64
  word : ∀ x ∈ ws, x < 18446744073709551616

/-- Which place's bit is set. -/
def bitOf (ws : List Nat) (n : Nat) : Bool := (ws.getD (n / 64) 0).testBit (n % 64)

/-- Places in memory: how many, how many are free, which are used. -/
structure SAt (B : Nat) (w : World) (b m l : Nat) (u : Nat → Bool) : Prop where
  out : ∃ ws v, PAt B w b m l ws v ∧ ∀ n, u n = bitOf ws n

theorem PAt.cell {B : Nat} {w : World} {b m l : Nat} {ws : List Nat} {v : Value} (h : PAt B w b m l ws v) :
    w.cell? ⟨b, 0, none⟩ = some (.int .i64 (m : Nat)) ∧ w.cell? ⟨b, 1, none⟩ = some (.int .i64 (l : Nat)) ∧ w.cell? ⟨b, 2, none⟩ = some v := by
  refine ⟨?_, ?_, ?_⟩ <;> (rw [cell_of_row w b _ _ _ _ h.blk]; rfl)
theorem PAt.frozen {B : Nat} {w : World} {b m l : Nat} {ws : List Nat} {v : Value} (h : PAt B w b m l ws v) (j : Nat) : w.frozen? ⟨b, j, none⟩ = false := frozen_of_row w b j _ _ h.blk
theorem PAt.kept {B : Nat} {w w' : World} {b m l : Nat} {ws : List Nat} {v : Value} (h : PAt B w b m l ws v) (k : Kept w w') : PAt B w' b m l ws v :=
  ⟨k.block h.blk, own_kept k h.row, h.leb, h.few, h.free, h.long, h.word⟩
theorem SAt.kept {B : Nat} {w w' : World} {b m l : Nat} {u : Nat → Bool} (h : SAt B w b m l u) (k : Kept w w') : SAt B w' b m l u := by
  obtain ⟨ws, v, h1, h2⟩ := h.out
  exact ⟨ws, v, h1.kept k, h2⟩
theorem PAt.form {B : Nat} {w : World} {b m l : Nat} {ws : List Nat} {v : Value} (h : PAt B w b m l ws v) : ∃ p c, v = .slice p ws.length c := by
  rcases h.row.2 with ⟨rfl, e⟩ | ⟨g, cap, cur, rfl, _⟩
  · exact ⟨none, 0, by rw [e]⟩
  · exact ⟨_, _, rfl⟩
theorem wsCells_get (ws : List Nat) (j : Nat) (h : j < ws.length) : (wsCells ws)[j]? = some (.int .u64 (ws[j] : Nat)) := by simp [wsCells, h]
theorem PAt.word_at {B : Nat} {w : World} {b m l : Nat} {ws : List Nat} {v : Value} (h : PAt B w b m l ws v) (j : Nat) (hj : j < ws.length) :
    ∃ g c, v = .slice (some ⟨g, 0, none⟩) ws.length c ∧ B ≤ g ∧ w.cell? ⟨g, j, none⟩ = some (.int .u64 (ws[j] : Nat)) ∧ w.frozen? ⟨g, j, none⟩ = false := by
  rcases h.row.2 with ⟨_, e⟩ | ⟨g, cap, cur, rfl, h1, h2, h3, h4, h5, h6⟩
  · omega
  · refine ⟨g, cap, rfl, h1, ?_, frozen_of_row w g j _ _ h2⟩
    have := h.row.cells (g := g) rfl j _ (wsCells_get ws j hj)
    simpa [Addr.add_lit] using this

theorem sat_new (w : World) (n : Nat) (hn : n ≤ 4096) : SAt w.heap.size (w.alloc (.cells #[.int .i64 (n : Nat), .int .i64 (n : Nat), .slice none 0 0] 94)) w.heap.size n n (fun _ => false) :=
  ⟨[], _, ⟨heap_alloc_new w _, World.ownsRow_nil _ _ _ _, Nat.le_refl _, hn, Nat.le_refl _, by simp, by simp⟩, fun k => by simp [bitOf]⟩

theorem new_walk (n : Nat) (hn : n ≤ 4096) (w : World) :
    Calls Tryz.prog 34 #[.int .i64 (n : Nat)] w fun e w' => ∃ b, e = .returned (.pointer (some ⟨b, 0, none⟩)) ∧ SAt w.heap.size w' b n n (fun _ => false) ∧ Kept w w' := by
  go_enter Tryz.func34, Tryz.ntmps34
  go_wp2
  go_ret
  exact ⟨_, rfl, sat_new w n hn, (Kept.refl w).alloc _⟩

theorem new_neg (n : Int) (hn : n < 0) (w : World) :
    Calls Tryz.prog 34 #[.int .i64 n] w fun e w' => ∃ b, e = .returned (.pointer (some ⟨b, 0, none⟩)) ∧ SAt w.heap.size w' b 0 0 (fun _ => false) ∧ Kept w w' := by
  go_enter Tryz.func34, Tryz.ntmps34
  go_wp2
  go_ret
  exact ⟨_, rfl, sat_new w 0 (Nat.zero_le _), (Kept.refl w).alloc _⟩

theorem left_walk {B : Nat} {w : World} {b m l : Nat} {u : Nat → Bool} (h : SAt B w b m l u) : Calls Tryz.prog 35 #[.pointer (some ⟨b, 0, none⟩)] w fun e w' => e = .returned (.int .i64 (l : Nat)) ∧ w' = w := by
  obtain ⟨ws, v, k, hu⟩ := h.out
  obtain ⟨c0, c1, c2⟩ := k.cell
  go_enter Tryz.func35, Tryz.ntmps35
  go_wp2
  go_ret
  exact ⟨rfl, rfl⟩
theorem left_nil {w : World} : Calls Tryz.prog 35 #[.pointer none] w fun e w' => e = .returned (.int .i64 0) ∧ w' = w := by
  go_enter Tryz.func35, Tryz.ntmps35
  go_wp2
  go_ret
  exact ⟨rfl, rfl⟩
theorem copy_nil {w : World} : Calls Tryz.prog 32 #[.pointer none] w fun e w' => e = .returned (.pointer none) ∧ w' = w := by
  go_enter Tryz.func32, Tryz.ntmps32
  go_wp2
  go_ret
  exact ⟨rfl, rfl⟩
theorem first_nil {w : World} (n : Int) : Calls Tryz.prog 26 #[.pointer none, .int .i64 n] w fun e w' => e = .returned (.int .i64 (-1)) ∧ w' = w := by
  go_enter Tryz.func26, Tryz.ntmps26
  go_wp2
  go_ret
  exact ⟨rfl, rfl⟩
theorem has_nil {w : World} (n : Int) : Calls Tryz.prog 47 #[.pointer none, .int .i64 n] w fun e w' => e = .returned (.bool false) ∧ w' = w := by
  go_enter Tryz.func47, Tryz.ntmps47
  go_wp2
  go_ret
  exact ⟨rfl, rfl⟩
theorem has_in {B : Nat} {w : World} {b m l : Nat} {u : Nat → Bool} (h : SAt B w b m l u) (n : Nat) (hn : n < m) : Calls Tryz.prog 47 #[.pointer (some ⟨b, 0, none⟩), .int .i64 (n : Nat)] w fun e w' => e = .returned (.bool true) ∧ w' = w := by
  obtain ⟨ws, v, k, hu⟩ := h.out
  obtain ⟨c0, c1, c2⟩ := k.cell
  have h1 : (0 : Int) ≤ (n : Int) := by omega
  have h2 : (n : Int) < (m : Int) := by omega
  go_enter Tryz.func47, Tryz.ntmps47
  go_wp2
  go_ret
  exact ⟨by simp, rfl⟩
theorem has_out {B : Nat} {w : World} {b m l : Nat} {u : Nat → Bool} (h : SAt B w b m l u) (n : Int) (hn : n < 0 ∨ (m : Int) ≤ n) : Calls Tryz.prog 47 #[.pointer (some ⟨b, 0, none⟩), .int .i64 n] w fun e w' => e = .returned (.bool false) ∧ w' = w := by
  obtain ⟨ws, v, k, hu⟩ := h.out
  obtain ⟨c0, c1, c2⟩ := k.cell
  by_cases h0 : 0 ≤ n
  · go_enter Tryz.func47, Tryz.ntmps47
    go_wp2
    go_ret
    exact ⟨by simp; omega, rfl⟩
  · go_enter Tryz.func47, Tryz.ntmps47
    go_wp2
    go_ret
    exact ⟨rfl, rfl⟩

theorem bit_eq (x j : Nat) (hx : x < 18446744073709551616) : (bits BinOp.and IntKind.u64 ((x : Int) / 2 ^ j) 1 == 1) = x.testBit j := by
  have e1 : (x : Int) / 2 ^ j = ((x / 2 ^ j : Nat) : Int) := by push_cast; rfl
  have hd : x / 2 ^ j < 18446744073709551616 := Nat.lt_of_le_of_lt (Nat.div_le_self _ _) hx
  rw [e1, show (1 : Int) = ((1 : Nat) : Int) from rfl, bits_and_u64_nat _ _ hd (by decide), Nat.testBit_eq_decide_div_mod_eq, Nat.and_one_is_mod, Bool.eq_iff_iff, beq_iff_eq, decide_eq_true_iff]
  omega

set_option maxHeartbeats 1000000 in
theorem bit_walk {B : Nat} {w : World} {b m l : Nat} {u : Nat → Bool} (h : SAt B w b m l u) (n : Nat) (hn : n < 9223372036854775808) : Calls Tryz.prog 48 #[.pointer (some ⟨b, 0, none⟩), .int .i64 (n : Nat)] w fun e w' => e = .returned (.bool (u n)) ∧ w' = w := by
  obtain ⟨ws, v, k, hu⟩ := h.out
  obtain ⟨c0, c1, c2⟩ := k.cell
  have hl := k.long
  by_cases hj : n / 64 < ws.length
  · obtain ⟨g, c, rfl, hg, hc, hf⟩ := k.word_at (n / 64) hj
    have hb : Hid ((bits BinOp.and IntKind.u64 (((ws[n / 64] : Nat) : Int) / 2 ^ (n % 64)) 1 == 1) = u n) := by
      show (bits BinOp.and IntKind.u64 (((ws[n / 64] : Nat) : Int) / 2 ^ (n % 64)) 1 == 1) = u n
      rw [bit_eq _ _ (k.word _ (List.getElem_mem hj)), hu, bitOf, List.getD_eq_getElem?_getD, List.getElem?_eq_getElem hj, Option.getD_some]
    clear hu
    go_enter Tryz.func48, Tryz.ntmps48
    go_wp2
    go_ret
    exact ⟨congrArg (fun q => Ending.returned (Value.bool q)) hb.out, rfl⟩
  · obtain ⟨p, c, rfl⟩ := k.form
    have hb : u n = false := by rw [hu, bitOf, List.getD_eq_getElem?_getD, List.getElem?_eq_none (by omega)]; simp
    clear hu
    go_enter Tryz.func48, Tryz.ntmps48
    go_wp2
    go_ret
    exact ⟨rfl, rfl⟩

/-- Whether a place is used; one that is not there is. -/
def usedOf (m : Nat) (u : Nat → Bool) (n : Int) : Bool := !decide (0 ≤ n ∧ n < (m : Int)) || u n.toNat

theorem used_in {B : Nat} {w : World} {b m l : Nat} {u : Nat → Bool} (h : SAt B w b m l u) (n : Nat) (hn : n < m) : Calls Tryz.prog 45 #[.pointer (some ⟨b, 0, none⟩), .int .i64 (n : Nat)] w fun e w' => e = .returned (.bool (u n)) ∧ w' = w := by
  obtain ⟨ws, v, k, hu⟩ := h.out
  have hm := k.few
  clear hu k
  go_enter Tryz.func45, Tryz.ntmps45
  go_wp2_with (first
    | (go_at_call 47; refine (has_in h n hn).mono ?_; rintro e w' ⟨rfl, rfl⟩)
    | (go_at_call 48; refine (bit_walk h n (by omega)).mono ?_; rintro e w' ⟨rfl, rfl⟩))
  go_ret
  exact ⟨rfl, rfl⟩
theorem used_out {B : Nat} {w : World} {b m l : Nat} {u : Nat → Bool} (h : SAt B w b m l u) (n : Int) (hn : n < 0 ∨ (m : Int) ≤ n) : Calls Tryz.prog 45 #[.pointer (some ⟨b, 0, none⟩), .int .i64 n] w fun e w' => e = .returned (.bool true) ∧ w' = w := by
  go_enter Tryz.func45, Tryz.ntmps45
  go_wp2_with (go_at_call 47; refine (has_out h n hn).mono ?_; rintro e w' ⟨rfl, rfl⟩)
  go_ret
  exact ⟨rfl, rfl⟩
theorem used_nil {w : World} (n : Int) : Calls Tryz.prog 45 #[.pointer none, .int .i64 n] w fun e w' => e = .returned (.bool true) ∧ w' = w := by
  go_enter Tryz.func45, Tryz.ntmps45
  go_wp2_with (go_at_call 47; refine (has_nil n).mono ?_; rintro e w' ⟨rfl, rfl⟩)
  go_ret
  exact ⟨rfl, rfl⟩
theorem use_nil {w : World} (n : Int) : Calls Tryz.prog 28 #[.pointer none, .int .i64 n] w fun e w' => e = .returned (.bool false) ∧ w' = w := by
  go_enter Tryz.func28, Tryz.ntmps28
  go_wp2_with (go_at_call 45; refine (used_nil n).mono ?_; rintro e w' ⟨rfl, rfl⟩)
  go_ret
  exact ⟨rfl, rfl⟩
theorem free_nil {w : World} (n : Int) : Calls Tryz.prog 29 #[.pointer none, .int .i64 n] w fun e w' => e = .returned (.bool false) ∧ w' = w := by
  go_enter Tryz.func29, Tryz.ntmps29
  go_wp2_with (go_at_call 47; refine (has_nil n).mono ?_; rintro e w' ⟨rfl, rfl⟩)
  go_ret
  exact ⟨rfl, rfl⟩
theorem use_out {B : Nat} {w : World} {b m l : Nat} {u : Nat → Bool} (h : SAt B w b m l u) (n : Int) (hn : n < 0 ∨ (m : Int) ≤ n) : Calls Tryz.prog 28 #[.pointer (some ⟨b, 0, none⟩), .int .i64 n] w fun e w' => e = .returned (.bool false) ∧ w' = w := by
  go_enter Tryz.func28, Tryz.ntmps28
  go_wp2_with (go_at_call 45; refine (used_out h n hn).mono ?_; rintro e w' ⟨rfl, rfl⟩)
  go_ret
  exact ⟨rfl, rfl⟩
theorem free_out {B : Nat} {w : World} {b m l : Nat} {u : Nat → Bool} (h : SAt B w b m l u) (n : Int) (hn : n < 0 ∨ (m : Int) ≤ n) : Calls Tryz.prog 29 #[.pointer (some ⟨b, 0, none⟩), .int .i64 n] w fun e w' => e = .returned (.bool false) ∧ w' = w := by
  go_enter Tryz.func29, Tryz.ntmps29
  go_wp2_with (go_at_call 47; refine (has_out h n hn).mono ?_; rintro e w' ⟨rfl, rfl⟩)
  go_ret
  exact ⟨rfl, rfl⟩
theorem use_had {B : Nat} {w : World} {b m l : Nat} {u : Nat → Bool} (h : SAt B w b m l u) (n : Nat) (hn : n < m) (hu : u n = true) : Calls Tryz.prog 28 #[.pointer (some ⟨b, 0, none⟩), .int .i64 (n : Nat)] w fun e w' => e = .returned (.bool false) ∧ w' = w := by
  have hc := used_in h n hn
  rw [hu] at hc
  go_enter Tryz.func28, Tryz.ntmps28
  go_wp2_with (go_at_call 45; refine hc.mono ?_; rintro e w' ⟨rfl, rfl⟩)
  go_ret
  exact ⟨rfl, rfl⟩
theorem free_had {B : Nat} {w : World} {b m l : Nat} {u : Nat → Bool} (h : SAt B w b m l u) (n : Nat) (hn : n < m) (hu : u n = false) : Calls Tryz.prog 29 #[.pointer (some ⟨b, 0, none⟩), .int .i64 (n : Nat)] w fun e w' => e = .returned (.bool false) ∧ w' = w := by
  obtain ⟨ws, v, k, _⟩ := h.out
  have hm := k.few
  have hc := bit_walk h n (by omega)
  rw [hu] at hc
  clear k
  go_enter Tryz.func29, Tryz.ntmps29
  go_wp2_with (first
    | (go_at_call 47; refine (has_in h n hn).mono ?_; rintro e w' ⟨rfl, rfl⟩)
    | (go_at_call 48; refine hc.mono ?_; rintro e w' ⟨rfl, rfl⟩))
  go_ret
  exact ⟨rfl, rfl⟩
end Go.Proofs.YthlhnjjofefgcaaGreatDoor.S
