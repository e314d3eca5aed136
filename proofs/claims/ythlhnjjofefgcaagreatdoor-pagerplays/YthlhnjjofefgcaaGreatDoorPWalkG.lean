/- The walks of page.May and page.Put: whether a page may be, and its sector. Conditions: numbers are within their kinds; Data has 100000 bytes at most. -/
import Derived.Test.YthlhnjjofefgcaaGreatDoorPWalkC
import Derived.Test.YthlhnjjofefgcaaGreatDoorPWalkF
import Derived.Test.YthlhnjjofefgcaaGreatDoorPShelf
import Derived.Deep.RegionHeld3
import Derived.Deep.DrawnRows
namespace Go.Proofs.YthlhnjjofefgcaaGreatDoor.P
open Go.ChangeShapes Go.WideShapes Go.ChangeAt Go.RowKit
attribute [local go_sem ↓] Go.wp_at_zero Go.wp_at_succ

set_option maxRecDepth 100000 in
theorem may_yes (kd nm : Int) (g : Nat) (s : ByteArray) (h1 : 1 ≤ kd) (h2 : kd ≤ 4) (h3 : 0 ≤ nm) (h4 : nm < 16384) (h5 : s.size ≤ 237) (w : World) :
    Calls Tryz.prog 27 #[.agg #[.int .i64 kd, .int .i64 nm, .int .u64 (g : Nat), .string s]] w fun e w' => e = .returned (.bool true) ∧ Kept w w' := by
  have h5 : (s.size : Int) ≤ 237 := by omega
  go_enter Tryz.func27, Tryz.ntmps27
  go_wp2
  go_ret
  exact ⟨rfl, (Kept.refl w).alloc _⟩

set_option maxRecDepth 100000 in
theorem may_no (kd nm : Int) (g : Nat) (s : ByteArray) (h : ¬ (1 ≤ kd ∧ kd ≤ 4 ∧ 0 ≤ nm ∧ nm < 16384 ∧ s.size ≤ 237)) (w : World) :
    Calls Tryz.prog 27 #[.agg #[.int .i64 kd, .int .i64 nm, .int .u64 (g : Nat), .string s]] w fun e w' => e = .returned (.bool false) ∧ Kept w w' := by
  have HK : Hid (∀ o, Kept w (w.alloc o)) := fun o => (Kept.refl w).alloc o
  by_cases h1 : 1 ≤ kd
  · by_cases h2 : kd ≤ 4
    · by_cases h3 : 0 ≤ nm
      · by_cases h4 : nm < 16384
        · have h5 : ¬ (s.size : Int) ≤ 237 := fun h5 => h ⟨h1, h2, h3, h4, by omega⟩
          clear h
          go_enter Tryz.func27, Tryz.ntmps27
          go_wp2
          go_ret
          exact ⟨rfl, HK.out _⟩
        · clear h
          go_enter Tryz.func27, Tryz.ntmps27
          go_wp2
          go_ret
          exact ⟨rfl, HK.out _⟩
      · clear h
        go_enter Tryz.func27, Tryz.ntmps27
        go_wp2
        go_ret
        exact ⟨rfl, HK.out _⟩
    · clear h
      go_enter Tryz.func27, Tryz.ntmps27
      go_wp2
      go_ret
      exact ⟨rfl, HK.out _⟩
  · clear h
    go_enter Tryz.func27, Tryz.ntmps27
    go_wp2
    go_ret
    exact ⟨rfl, HK.out _⟩

/-- A page in memory. -/
structure Pg (w : World) (b : Nat) (kd nm : Int) (g : Int) (s : ByteArray) (t : TypeId) : Prop where
  out : w.heap[b]? = some (.cells #[.int .i64 kd, .int .i64 nm, .int .u64 g, .string s] t)

theorem Kept.pg {w w' : World} (h : Kept w w') {b : Nat} {kd nm : Int} {g : Int} {s : ByteArray} {t : TypeId} (k : Pg w b kd nm g s t) : Pg w' b kd nm g s t := ⟨h.block k.out⟩
theorem Pg.cs {w : World} {b : Nat} {kd nm : Int} {g : Int} {s : ByteArray} {t : TypeId} (k : Pg w b kd nm g s t) :
    w.cell? ⟨b, 0, none⟩ = some (.int .i64 kd) ∧ w.cell? ⟨b, 1, none⟩ = some (.int .i64 nm) ∧ w.cell? ⟨b, 2, none⟩ = some (.int .u64 g) ∧ w.cell? ⟨b, 3, none⟩ = some (.string s) := by
  refine ⟨?_, ?_, ?_, ?_⟩
  all_goals rw [cell_of_row w b _ _ _ _ k.out]
  all_goals rfl
theorem Pg.alloc (w : World) (kd nm : Int) (g : Int) (s : ByteArray) (t : TypeId) : Pg (w.alloc (.cells #[.int .i64 kd, .int .i64 nm, .int .u64 g, .string s] t)) w.heap.size kd nm g s t :=
  ⟨by show (w.heap.push _)[w.heap.size]? = _; simp⟩

theorem zeros (c : Nat) : (⟨(Lib.repeatL [0] c).toArray⟩ : ByteArray) = bs (List.replicate c 0) := by
  unfold bs
  congr 2
  induction c with
  | zero => rfl
  | succ c ih => simp [Lib.repeatL, List.replicate_succ] at ih ⊢; rw [ih]

set_option maxRecDepth 100000 in
theorem put_no (kd nm : Int) (g : Nat) (s : ByteArray) (h : ¬ (1 ≤ kd ∧ kd ≤ 4 ∧ 0 ≤ nm ∧ nm < 16384 ∧ s.size ≤ 237)) (w : World) :
    Calls Tryz.prog 52 #[.agg #[.int .i64 kd, .int .i64 nm, .int .u64 (g : Nat), .string s]] w fun e w' => e = .returned (.string ⟨#[]⟩) ∧ Kept w w' := by
  have h9 := may_no kd nm g s h
  clear h
  go_enter Tryz.func52, Tryz.ntmps52
  go_wp2_with (go_at_call 27; refine (h9 _).mono ?_; rintro e w1 ⟨rfl, k1⟩)
  go_ret
  exact ⟨rfl, ((Kept.refl w).alloc _).trans k1⟩

set_option maxRecDepth 100000 in
set_option maxHeartbeats 4000000 in
theorem put_yes (k n g : Nat) (l : List Nat) (h1 : 1 ≤ k) (h2 : k ≤ 4) (h4 : n < 16384) (hg : g < 18446744073709551616) (h5 : l.length ≤ 237) (w : World) :
    Calls Tryz.prog 52 #[.agg #[.int .i64 (k : Nat), .int .i64 (n : Nat), .int .u64 (g : Nat), .string (bs l)]] w fun e w' => e = .returned (.string (bs (pageL k n g l))) ∧ Kept w w' := by
  have hz := bs_size l
  have h9 := may_yes k n g (bs l) (by omega) (by omega) (by omega) (by omega) (by omega)
  have a1 := fixed_walk k (by omega) 1
  have a2 := fixed_walk n (by omega) 4
  have a3 := fixed_walk g hg 8
  have a4 := fixed_walk l.length (by omega) 2
  have a5 : ∀ w, Calls Tryz.prog 72 #[.string ⟨#[0]⟩, .int .i64 (237 - (l.length : Int))] w fun e w' => e = .returned (.string (bs (List.replicate (237 - l.length) 0))) ∧ Kept w w' := by
    intro w
    have := Tryz.strings_Repeat ⟨#[0]⟩ (237 - l.length) w (by omega) (by show 1 * (237 - l.length) ≤ 140737488355328; omega)
    rw [show ((237 - l.length : Nat) : Int) = 237 - (l.length : Int) by omega] at this
    refine this.mono ?_
    rintro e w' ⟨rfl, hb⟩
    exact ⟨by rw [← zeros], ⟨hb⟩⟩
  have a6 : ∀ w, Calls Tryz.prog 73 #[.string (bs (headL k n g l))] w fun e w' => e = .returned (.int .u32 (chk (headL k n g l) : Nat)) ∧ Kept w w' :=
    fun w => of_walk (bs (headL k n g l)) (by rw [bs_size, headL_length _ _ _ _ h5]; decide) w
  have hcl := chk_lt (headL k n g l)
  have a7 := fixed_walk (chk (headL k n g l)) (by omega) 4
  rw [show kOf 1 = 1 from rfl] at a1
  rw [show kOf 4 = 4 from rfl] at a2 a7
  rw [show kOf 8 = 8 from rfl] at a3
  rw [show kOf 2 = 2 from rfl] at a4
  have z1 : (bs (fixL k 1)).size = 1 := by rw [bs_size, fixL_length]
  have z2 : (bs (fixL n 4)).size = 4 := by rw [bs_size, fixL_length]
  have z3 : (bs (fixL g 8)).size = 8 := by rw [bs_size, fixL_length]
  have z4 : (bs (fixL l.length 2)).size = 2 := by rw [bs_size, fixL_length]
  have z5 : (bs (List.replicate (237 - l.length) 0)).size = 237 - l.length := by rw [bs_size]; simp
  have z6 : (bs (headL k n g l)).size = 252 := by rw [bs_size, headL_length _ _ _ _ h5]
  have z7 : (bs (fixL (chk (headL k n g l)) 4)).size = 4 := by rw [bs_size, fixL_length]
  have c1 : bs (fixL k 1) ++ bs (fixL n 4) ++ bs (fixL g 8) ++ bs (fixL l.length 2) ++ bs l ++ bs (List.replicate (237 - l.length) 0) = bs (headL k n g l) := by
    simp only [bs_append, headL, List.append_assoc]
  have c2 : bs (headL k n g l) ++ bs (fixL (chk (headL k n g l)) 4) = bs (pageL k n g l) := bs_append _ _
  generalize chk (headL k n g l) = C at *
  generalize bs (pageL k n g l) = R at *
  generalize bs (headL k n g l) = H at *
  generalize bs (fixL k 1) = s1 at *
  generalize bs (fixL n 4) = s2 at *
  generalize bs (fixL g 8) = s3 at *
  generalize bs (fixL l.length 2) = s4 at *
  generalize bs (List.replicate (237 - l.length) 0) = s5 at *
  generalize bs (fixL C 4) = s6 at *
  generalize bs l = s at *
  generalize l.length = L at *
  subst hz
  have u1 : IntKind.u64.wrap (k : Int) = (k : Int) := by rw [IntKind.wrap_u64]; omega
  have u2 : IntKind.u64.wrap (n : Int) = (n : Int) := by rw [IntKind.wrap_u64]; omega
  have u4 : IntKind.u64.wrap (s.size : Int) = (s.size : Int) := by rw [IntKind.wrap_u64]; omega
  have u5 : IntKind.i64.wrap (237 - (s.size : Int)) = 237 - (s.size : Int) := by rw [IntKind.wrap_i64]; omega
  have b0 : (s.size : Int) ≤ 237 := by omega
  have b1 : (s5.size : Int) ≤ 237 := by omega
  have y1 : ¬ 9223372036854775807 < 15 + s.size := by omega
  have y2 : ¬ 9223372036854775807 < 15 + s.size + s5.size := by omega
  clear z5
  go_enter Tryz.func52, Tryz.ntmps52
  go_wp2_with (go_at_call 27; refine (h9 _).mono ?_; rintro e w1 ⟨rfl, k1⟩; have P0 := (k1.drew).pg (Pg.alloc w k n g s 55); obtain ⟨c0, c1, c2, c3⟩ := P0.cs)
  go_region_held3 (fun W => W.cell? ⟨w.heap.size, 0, none⟩ = some (.int .i64 (k : Nat)) ∧ W.cell? ⟨w.heap.size, 1, none⟩ = some (.int .i64 (n : Nat)) ∧ W.cell? ⟨w.heap.size, 2, none⟩ = some (.int .u64 (g : Nat)) ∧ W.cell? ⟨w.heap.size, 3, none⟩ = some (.string s)) (go_keep) (first
    | (go_at_call 71; with_reducible refine (a1 _).mono ?_; rintro e v1 ⟨rfl, q1⟩; have P1 := q1.pg P0; obtain ⟨c10, c11, c12, c13⟩ := P1.cs)
    | (go_at_call 71; with_reducible refine (a2 _).mono ?_; rintro e v2 ⟨rfl, q2⟩; have P2 := q2.pg P1; obtain ⟨c20, c21, c22, c23⟩ := P2.cs)
    | (go_at_call 71; with_reducible refine (a3 _).mono ?_; rintro e v3 ⟨rfl, q3⟩; have P3 := q3.pg P2; obtain ⟨c30, c31, c32, c33⟩ := P3.cs)
    | (go_at_call 71; with_reducible refine (a4 _).mono ?_; rintro e v4 ⟨rfl, q4⟩; have P4 := q4.pg P3; obtain ⟨c40, c41, c42, c43⟩ := P4.cs)
    | (go_at_call 72; with_reducible refine (a5 _).mono ?_; rintro e v5 ⟨rfl, q5⟩; have P5 := q5.pg P4; obtain ⟨c50, c51, c52, c53⟩ := P5.cs))
  all_goals clear P0 P1 P2 P3 P4 P5
  all_goals go_wp2_with (first
    | (go_at_call 73; with_reducible refine (a6 _).mono ?_; rintro e v6 ⟨rfl, q6⟩)
    | (go_at_call 71; with_reducible refine (a7 _).mono ?_; rintro e v7 ⟨rfl, q7⟩))
  all_goals go_ret
  all_goals exact ⟨rfl, ((((((((Kept.refl w).alloc _).trans k1).drew.trans q1).trans q2).trans q3).trans q4).trans q5).trans (q6.trans q7)⟩
end Go.Proofs.YthlhnjjofefgcaaGreatDoor.P
