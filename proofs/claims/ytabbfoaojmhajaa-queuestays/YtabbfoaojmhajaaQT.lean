/- The walk of the statement's plays: an act of a queue and of a list. Conditions: those that each row names. -/
import Derived.Test.YtabbfoaojmhajaaQS
namespace Go.Proofs.Ytabbfoaojmhajaa.Q
open Go.ChangeShapes Go.WideShapes Go.ChangeAt Go.RowKit
open N (Kept bs numL keyL Small Rd On)

/-- What plays leaves. -/
structure Pla (w w' : World) (B a b m : Nat) (nm : List Nat) (f : ByteArray → Option ByteArray) (b' off' n' c' : Nat) (l' : List Nat) : Prop where
  aft : Aft w w' B a b m nm l' f
  ul : Ul w' b' off' n' c' l'
theorem Ul.at0 {w : World} {b off n c x : Nat} {r : List Nat} (h : Ul w b off n c (x :: r)) : w.cell? ⟨b, off, none⟩ = some (.int .u64 (x : Nat)) := h.at (i := 0) rfl
theorem act_cells (w : World) (what : Int) (n : Nat) (o : Bool) : (w.alloc (.cells #[.int .i64 what, .int .u64 (n : Nat), .bool o] 33)).cell? ⟨w.heap.size, 0, none⟩ = some (.int .i64 what) ∧ (w.alloc (.cells #[.int .i64 what, .int .u64 (n : Nat), .bool o] 33)).cell? ⟨w.heap.size, 1, none⟩ = some (.int .u64 (n : Nat)) := by
  have h := heap_alloc_new w (.cells #[.int .i64 what, .int .u64 (n : Nat), .bool o] 33)
  exact ⟨by rw [cell_of_row _ _ 0 _ _ _ h]; rfl, by rw [cell_of_row _ _ 1 _ _ _ h]; rfl⟩
theorem Aft.pre {w w1 w' : World} {B a b m : Nat} {nm l : List Nat} {f : ByteArray → Option ByteArray} (k : Kept w w1) (hB : B ≤ w.heap.size) (h : Aft w1 w' B a b m nm l f) : Aft w w' B a b m nm l f := ⟨h.out, Vn.pre k hB h.vn⟩
theorem Aft.more {w w1 w' : World} {B a b m : Nat} {nm l : List Nat} {f : ByteArray → Option ByteArray} (h : Aft w w1 B a b m nm l f) (k : Kept w1 w') (hB : B ≤ w.heap.size) : Aft w w' B a b m nm l f := by
  obtain ⟨m', f', h1, h2, h3, h4⟩ := h.out
  exact ⟨⟨m', f', h1, h2.kept k, h3, h4⟩, h.vn.more k hB⟩

set_option maxRecDepth 100000 in
set_option maxHeartbeats 2000000 in
theorem plays_pop {w : World} {B a b m bx ox n c : Nat} {nm l : List Nat} {f : ByteArray → Option ByteArray} (h : Qx w B a b m nm l f) (u : Ul w bx ox n c l) (hm : m ≤ 900) (what : Int) (N0 : Nat) (hN0 : N0 < 18446744073709551616) (o : Bool) (hw : bits .and .i64 what 3 = 2) :
    Calls Try.prog 8 #[.pointer (some ⟨a, 0, none⟩), .slice (some ⟨bx, ox, none⟩) n c, .agg #[.int .i64 what, .int .u64 (N0 : Nat), .bool o]] w fun e w' => ∃ b' off' n' c', e = .returned (.tuple #[.slice (some ⟨b', off', none⟩) n' c', .bool true]) ∧ Pla w w' B a b m nm f b' off' n' c' l.tail := by
  have kA : Kept w (w.alloc (.cells #[.int .i64 what, .int .u64 (N0 : Nat), .bool o] 33)) := (Kept.refl w).alloc _
  have hp := (h.kept kA).pop hm
  obtain ⟨c0, c1⟩ := act_cells w what N0 o
  have hB := h.s.base
  have hsm := u.small
  have em : bits .and .u64 (N0 : Int) 4611686018427387903 = ((N0 % 2 ^ 62 : Nat) : Int) := mask_nat N0 62 4611686018427387903 hN0 (by omega) rfl
  have hlen := u.len
  match l, h, u, hp, hlen with
  | [], h, u, hp, hlen =>
    obtain rfl : n = 0 := by simpa using hlen.symm
    have UA : Hid (Ul w bx ox 0 c []) := u
    clear h u hlen
    go_enter Try.func8, Try.ntmps8
    go_wp2_with (go_at_call 12; (with_reducible refine hp.mono ?_); rintro e w1 ⟨rfl, t1⟩; have T1 : Hid (Aft _ w1 B a b m nm ([] : List Nat).tail f) := t1; clear t1 hp)
    go_ret2
    exact ⟨bx, ox, 0, c, rfl, T1.out.pre kA hB, UA.out.vn (Vn.pre kA hB T1.out.vn)⟩
  | x :: r, h, u, hp, hlen =>
    have hp : Calls Try.prog 12 #[.pointer (some ⟨a, 0, none⟩)] (w.alloc (.cells #[.int .i64 what, .int .u64 (N0 : Nat), .bool o] 33)) fun e w' => e = .returned (.tuple #[.int .u64 (x : Nat), .bool true, .int .i64 0]) ∧ Aft (w.alloc (.cells #[.int .i64 what, .int .u64 (N0 : Nat), .bool o] 33)) w' B a b m nm r f := hp
    obtain ⟨b', off', hsl, ur⟩ := u.rest (by rw [← hlen]; simp)
    have UR : Hid (Ul w b' off' (n - 1) (c - 1) r) := ur
    have UA : Hid (Ul w bx ox n c (x :: r)) := u
    have hn1 : (0 : Int) < (n : Int) := by rw [← hlen]; simp
    have hn2 : (1 : Int) ≤ (n : Int) := by omega
    clear h u hlen ur
    go_enter Try.func8, Try.ntmps8
    go_wp2_with (go_at_call 12; (with_reducible refine hp.mono ?_); rintro e w1 ⟨rfl, t1⟩; have T1 : Hid (Aft _ w1 B a b m nm r f) := t1; have y0 := (UA.out.vn (Vn.pre kA hB t1.vn)).at0; clear t1 hp)
    go_ret2
    exact ⟨b', off', n - 1, c - 1, rfl, T1.out.pre kA hB, UR.out.vn (Vn.pre kA hB T1.out.vn)⟩

set_option maxRecDepth 100000 in
set_option maxHeartbeats 2000000 in
theorem plays_ask {w : World} {B a b m bx ox n c : Nat} {nm l : List Nat} {f : ByteArray → Option ByteArray} (h : Qx w B a b m nm l f) (u : Ul w bx ox n c l) (what : Int) (N0 : Nat) (hN0 : N0 < 18446744073709551616) (o : Bool) (hw : bits .and .i64 what 3 = 3) :
    Calls Try.prog 8 #[.pointer (some ⟨a, 0, none⟩), .slice (some ⟨bx, ox, none⟩) n c, .agg #[.int .i64 what, .int .u64 (N0 : Nat), .bool o]] w fun e w' => ∃ b' off' n' c', e = .returned (.tuple #[.slice (some ⟨b', off', none⟩) n' c', .bool true]) ∧ Pla w w' B a b m nm f b' off' n' c' l := by
  have kA : Kept w (w.alloc (.cells #[.int .i64 what, .int .u64 (N0 : Nat), .bool o] 33)) := (Kept.refl w).alloc _
  obtain ⟨c0, c1⟩ := act_cells w what N0 o
  obtain ⟨z, hz⟩ : ∃ z, z = N0 % 2 ^ 62 := ⟨_, rfl⟩
  have em : bits .and .u64 (N0 : Int) 4611686018427387903 = (z : Int) := by rw [hz]; exact mask_nat N0 62 4611686018427387903 hN0 (by omega) rfl
  have hz2 : z < 18446744073709551616 := by omega
  have H : Hid (Qx w B a b m nm l f) := h
  have U : Hid (Ul w bx ox n c l) := u
  have hh := (h.kept kA).qhas z hz2
  have hlen := u.len
  have HQ : Hid (∀ W, Kept w W → Calls Try.prog 13 #[.pointer (some ⟨a, 0, none⟩)] W fun e w' => e = .returned (.tuple #[.int .i64 (n : Nat), .int .i64 0]) ∧ Kept W w') := fun W k => by have := (h.kept k).qlen; rwa [hlen] at this
  have HU : Hid (∀ W, Kept w W → Calls Try.prog 11 #[.slice (some ⟨bx, ox, none⟩) n c, .int .u64 (z : Nat)] W fun e w' => e = .returned (.bool (decide (z ∈ l))) ∧ w' = W) := fun W k => uhas_walk (u.kept k) z
  generalize decide (z ∈ l) = is at *
  clear h u hz hz2 hlen
  go_enter Try.func8, Try.ntmps8
  go_wp2_with (first
    | (go_at_call 14; (with_reducible refine hh.mono ?_); rintro e w1 ⟨rfl, k1⟩; have K1 : Hid (Kept w w1) := kA.trans k1; have hl := HQ.out _ K1.out; clear k1 hh)
    | (go_at_call 13; (with_reducible refine hl.mono ?_); rintro e w2 ⟨rfl, k2⟩; have K2 : Hid (Kept w w2) := K1.out.trans k2; have hu := HU.out _ K2.out; clear k2 hl)
    | (go_at_call 11; (with_reducible refine hu.mono ?_); rintro e w3 ⟨rfl, hw3⟩; subst hw3; clear hu))
  go_ret2
  exact ⟨bx, ox, n, c, rfl, H.out.same K2.out, U.out.kept K2.out⟩
end Go.Proofs.Ytabbfoaojmhajaa.Q
