/- The walk of the law on no pager. Conditions: the library's table is laid. -/
import Derived.Test.YthlhnjjofefgcaaGreatDoorGWalkN
import Derived.Laws.MakeOwn
import Derived.Laws.StructEq
namespace Go.Proofs.YthlhnjjofefgcaaGreatDoor.G
open Go.ChangeShapes Go.WideShapes Go.ChangeAt Go.RowKit
open D (Dk Ok DiskAt Sec Wr Ct CutsAt whole)
open P (bs supL Sup supP Small)

theorem info5' : (Tryz.prog.info? 5).map (fun i => (i.zero, i.size, i.bytes)) = some (some (.int .u8 0), 1, 1) := by kernel_rfl

/-- A text of noughts, made. -/
theorem made_text (n : Nat) (hn : n ≤ 1000) (W : World) : ∃ w1, (Instr.makeSlice 63 (.int .i64 (n : Nat)) (.int .i64 (n : Nat))).run Tryz.prog W = .ok (.slice (some ⟨W.heap.size, 0, none⟩) n n) w1 ∧ (convert 63 9 (.slice (some ⟨W.heap.size, 0, none⟩) n n)).run Tryz.prog w1 = .ok (.string (bs (List.replicate n 0))) w1 ∧ D.Kept W w1 := by
  obtain ⟨i, hi, hz, hs, hby⟩ := info_parts info5'
  obtain ⟨w1, mk, ow, gw⟩ := run_makeSlice_full (P := Tryz.prog) W W.heap.size 63 5 i _ 1 Tryz.underlying63 hi hz hs .i64 .i64 n (by omega) (by rw [hby]; omega) (by unfold maxLen; omega) (Nat.le_refl _)
  refine ⟨w1, mk, ?_, ⟨(Below.refl _ W).grown gw (Nat.le_refl _) (fun _ e => by cases e)⟩⟩
  have e : (madeCells #[Value.int .u8 0] (n * 1)).toList = P.cellsOf (List.replicate n 0) := by
    rw [toList_madeCells_one, Nat.mul_one]
    simp [P.cellsOf]
  have ow' : w1.ownsRow W.heap.size 5 1 (.slice (some ⟨W.heap.size, 0, none⟩) n n) n (P.cellsOf (List.replicate n 0)) := by rw [← e]; exact ow
  have e2 : n = (List.replicate n 0).length := by simp
  have := P.own_text (l := List.replicate n 0) (v := .slice (some ⟨W.heap.size, 0, none⟩) n n) (by rw [← e2]; exact ow')
  exact this

set_option maxRecDepth 100000 in
set_option maxHeartbeats 4000000 in
theorem none_walk (n : Int) (s : ByteArray) (w : World) (hL : S.Lds w) : Calls Tryz.prog 6 #[.int .i64 n, .string s] w fun e w' => e = .returned (.bool true) ∧ D.Kept w w' := by
  have a11 := fun W => drop_nil n W
  have a14 := fun W => undo_nil W
  have a21 := fun W => read_nil n (.slice none 0 0) W
  have a10 := fun W => add_nil n s W
  have a13 := fun W => commit_nil n W
  have a18 := fun W => left_nil W
  have a16 := fun W => mark_nil n W
  have a20 := fun W => state_nil W
  have b7 : ∀ W : World, Calls Tryz.prog 7 #[.int .i64 4, .slice none 0 0] W fun e w' => ∃ b g p d, e = .returned (.tuple #[.pointer (some ⟨b, 0, none⟩), .pointer (some ⟨p, 0, none⟩), .int .i64 0]) ∧ Bg 4 [] d ∧ GAt W.heap.size w' p b g (opened d (1, -1)) ∧ D.Kept W w' := fun W =>
    begun_walk 4 (by decide) (by decide) (⟨none, 0, rfl, Nat.le_refl _, Nat.zero_le _, fun j hj => by cases hj⟩ : CutsAt 0 W (.slice none 0 0) []) (Nat.zero_le _) (Nat.zero_le _) (by intro _ h; cases h) ⟨rfl, by intro _ _ h; cases h⟩
  have b8 := fun W hW => awake_walk W hW
  obtain ⟨T, hT⟩ : ∃ T, bs (List.replicate 238 0) = T := ⟨_, rfl⟩
  have hTs : T.size = 238 := by rw [← hT, P.bs_size, List.length_replicate]
  have b10 : ∀ (W : World) (B b g p : Nat) (d : Dk), Bg 4 [] d → GAt B W p b g (opened d (1, -1)) → S.Lds W → Calls Tryz.prog 10 #[.pointer (some ⟨p, 0, none⟩), .int .i64 0, .string ⟨#[]⟩] W fun e w' => e = .returned (.tuple #[.int .i64 0, .int .i64 1]) ∧ D.Kept W w' := fun W B b g p d hb hG hl =>
    add_bad hG hl 2 (ahead_first (by show 3 ≤ d.secs.length; rw [hb.len]; decide)) 0 ⟨#[]⟩ (show 1 < 4611686018427387904 by decide) (by decide)
  have c10 : ∀ (W : World) (B b g p : Nat) (d : Dk), Bg 4 [] d → GAt B W p b g (opened d (1, -1)) → S.Lds W → Calls Tryz.prog 10 #[.pointer (some ⟨p, 0, none⟩), .int .i64 2, .string T] W fun e w' => e = .returned (.tuple #[.int .i64 0, .int .i64 1]) ∧ D.Kept W w' := fun W B b g p d hb hG hl =>
    add_bad hG hl 2 (ahead_first (by show 3 ≤ d.secs.length; rw [hb.len]; decide)) 2 T (show 1 < 4611686018427387904 by decide) (by omega)
  have b13 : ∀ (W : World) (B b g p : Nat) (d : Dk), GAt B W p b g (opened d (1, -1)) → Calls Tryz.prog 13 #[.pointer (some ⟨p, 0, none⟩), .int .i64 16384] W fun e w' => e = .returned (.int .i64 1) ∧ D.Kept W w' := fun W B b g p d hG =>
    commit_bad hG (show 1 < 4611686018427387904 by decide) 16384 (by show ¬ Sup (1 + 1) 16384; unfold Sup; decide)
  have b18 : ∀ (W : World) (B b g p : Nat) (d : Dk), Bg 4 [] d → GAt B W p b g (opened d (1, -1)) → Calls Tryz.prog 18 #[.pointer (some ⟨p, 0, none⟩)] W fun e w' => e = .returned (.int .i64 2) ∧ w' = W := fun W B b g p d hb hG => by
    have := left_walk hG
    have e : S.cnt (opened d (1, -1)).m (opened d (1, -1)).ut = 2 := by
      show S.cnt d.secs.length ahead = 2
      rw [hb.len]; decide
    rw [e] at this
    exact this
  have b25 : ∀ (W : World) (B b g p : Nat) (d : Dk), Bg 4 [] d → GAt B W p b g (opened d (1, -1)) → Calls Tryz.prog 25 #[.pointer (some ⟨b, 0, none⟩)] W fun e w' => e = .returned (.int .i64 4) ∧ w' = W := fun W B b g p d hb hG => by
    obtain ⟨a, rfl, rfl, k⟩ := hG.out
    have := D.sectors_walk k.disk
    rw [show (opened d (1, -1)).disk.secs.length = 4 from hb.len] at this
    exact this
  have gk : ∀ {W W' : World} {B b g p : Nat} {q : Pq}, GAt B W p b g q → D.Kept W W' → GAt B W' p b g q := fun hG hK => by
    obtain ⟨a, e1, e2, k⟩ := hG.out; exact ⟨a, e1, e2, k.kept hK⟩
  have heq : ∀ W : World, (binOp .eql 52 (.agg #[.int .u64 0, .int .i64 0]) (.agg #[.int .u64 0, .int .i64 0])).run Tryz.prog W = .ok (.bool true) W := fun W => by kernel_rfl
  have mt : ∀ W : World, ∃ w1, (Instr.makeSlice 63 (.int .i64 238) (.int .i64 238)).run Tryz.prog W = .ok (.slice (some ⟨W.heap.size, 0, none⟩) 238 238) w1 ∧ (convert 63 9 (.slice (some ⟨W.heap.size, 0, none⟩) 238 238)).run Tryz.prog w1 = .ok (.string T) w1 ∧ D.Kept W w1 := fun W => by
    have := made_text 238 (by decide) W
    rw [hT] at this
    exact this
  clear hT hTs
  go_enter Tryz.func6, Tryz.ntmps6
  go_wp2_with (first
    | (go_at_call 11; (with_reducible refine (a11 _).mono ?_); rintro e w1 ⟨rfl, hw1⟩; rw [hw1]; clear hw1 a11)
    | (go_at_call 14; (with_reducible refine (a14 _).mono ?_); rintro e w1 ⟨rfl, hw1⟩; rw [hw1]; clear hw1 a14)
    | (go_at_call 21; (with_reducible refine (a21 _).mono ?_); rintro e w1 ⟨rfl, K1⟩; have K2 : D.Kept w (w1.alloc (.cells #[.int .i64 0, .int .i64 0, .int .u64 0, .string ⟨#[]⟩] 55)) := K1.alloc _; clear a21)
    | (go_at_call 10; (with_reducible refine (a10 _).mono ?_); rintro e w2 ⟨rfl, hw2⟩; rw [hw2]; clear hw2 a10)
    | (go_at_call 7; (with_reducible refine (b7 _).mono ?_); rintro e w3 ⟨b, g, p, d, rfl, hbg, hG3, K3⟩; have K30 := K2.trans K3; have h8 := b8 w3 (lds_kept hL K30); clear b7 b8)
    | (go_at_call 8; (with_reducible refine h8.mono ?_); rintro e w4 ⟨rfl, K4⟩; have K40 := K30.trans K4; have hG4 := gk hG3 K4; have h25 := b25 w4 _ b g p d hbg hG4; have h10 := b10 w4 _ b g p d hbg hG4 (lds_kept hL K40); clear h8)
    | (go_at_call 25; (with_reducible refine h25.mono ?_); rintro e w5 ⟨rfl, hw5⟩; rw [hw5]; clear hw5 h25)
    | (go_at_call 10; (with_reducible refine h10.mono ?_); rintro e w5 ⟨rfl, K5⟩; have K50 := K40.trans K5; have hG5 := gk hG4 K5; obtain ⟨w6, mk6, cv6, K6⟩ := mt w5; have K60 := K50.trans K6; have hG6 := gk hG5 K6; have h10' := c10 w6 _ b g p d hbg hG6 (lds_kept hL K60); clear h10)
    | (go_at_call 10; (with_reducible refine h10'.mono ?_); rintro e w7 ⟨rfl, K7⟩; have K70 := K60.trans K7; have hG7 := gk hG6 K7; clear h10')
    | (go_at_call 13; (with_reducible refine (a13 _).mono ?_); rintro e w8 ⟨rfl, hw8⟩; rw [hw8]; clear hw8 a13)
    | (go_at_call 18; (with_reducible refine (a18 _).mono ?_); rintro e w8 ⟨rfl, hw8⟩; rw [hw8]; clear hw8 a18)
    | (go_at_call 16; (with_reducible refine (a16 _).mono ?_); rintro e w8 ⟨rfl, hw8⟩; rw [hw8]; clear hw8 a16)
    | (go_at_call 20; (with_reducible refine (a20 _).mono ?_); rintro e w8 ⟨rfl, K8⟩; have K80 := K70.trans K8; have hG8 := gk hG7 K8; have h13 := b13 w8 _ b g p d hG8; clear a20)
    | (go_at_call 13; (with_reducible refine h13.mono ?_); rintro e w9 ⟨rfl, K9⟩; have K90 := K80.trans K9; have hG9 := gk hG8 K9; have h18 := b18 w9 _ b g p d hbg hG9; clear h13)
    | (go_at_call 18; (with_reducible refine h18.mono ?_); rintro e wA ⟨rfl, hwA⟩; rw [hwA]; clear hwA))
  go_ret
  exact ⟨rfl, K90⟩
end Go.Proofs.YthlhnjjofefgcaaGreatDoor.G
