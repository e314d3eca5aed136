/- Joined: XI XJ. What is proved of the functions beneath StoreNone. Conditions: those that each row names. -/
import Derived.Test.YtifeihnhkbagpaaGreatDoorZbj
import Derived.Test.YtifeihnhkbagpaaGreatDoorZbl
import Derived.Laws.MakeOwn
import Derived.Deep.RegionHeld3
import Derived.Deep.DrawnRows
import Derived.Deep.CutRange
namespace Go.Proofs.YtifeihnhkbagpaaGreatDoor.T
open Go.ChangeShapes Go.WideShapes Go.ChangeAt Go.RowKit
open Go.Proofs.YtifeihnhkbagpaaGreatDoor.D (Dk DiskAt CutsAt)
open N (Kept Rw)

theorem sundo_nil (w : World) : Calls Tryz.prog 16 #[.pointer none] w fun e w' => e = .returned (.tuple #[]) ∧ w' = w := by
  go_enter Tryz.func16, Tryz.ntmps16
  go_wp2
  first | go_end0 | refine bodyPost_ret (results_none rfl _ _ _) rfl ?_
  exact ⟨rfl, rfl⟩
theorem sget_nil (k : ByteArray) (w : World) : Calls Tryz.prog 23 #[.pointer none, .string k] w fun e w' => e = .returned (.tuple #[.string ⟨#[]⟩, .bool false, .int .i64 1]) ∧ w' = w := by
  have f := err_nil w
  go_enter Tryz.func23, Tryz.ntmps23
  go_wp2_with (go_at_call 25; (with_reducible refine f.mono ?_); rintro e w1 ⟨rfl, hw1⟩; rw [hw1]; clear hw1)
  go_ret3
  exact ⟨rfl, rfl⟩
theorem sdelete_nil (k : ByteArray) (w : World) : Calls Tryz.prog 13 #[.pointer none, .string k] w fun e w' => e = .returned (.tuple #[.bool false, .int .i64 1]) ∧ w' = w := by
  have f := err_nil w
  go_enter Tryz.func13, Tryz.ntmps13
  go_wp2_with (go_at_call 25; (with_reducible refine f.mono ?_); rintro e w1 ⟨rfl, hw1⟩; rw [hw1]; clear hw1)
  go_ret2
  exact ⟨rfl, rfl⟩
theorem skeys_nil (a b : ByteArray) (n : Int) (w : World) : Calls Tryz.prog 24 #[.pointer none, .string a, .string b, .int .i64 n] w fun e w' => e = .returned (.tuple #[.slice none 0 0, .slice none 0 0, .int .i64 1]) ∧ w' = w := by
  have f := err_nil w
  go_enter Tryz.func24, Tryz.ntmps24
  go_wp2_with (go_at_call 25; (with_reducible refine f.mono ?_); rintro e w1 ⟨rfl, hw1⟩; rw [hw1]; clear hw1)
  go_ret3
  exact ⟨rfl, rfl⟩
theorem sput_nil (k v : ByteArray) (w : World) : Calls Tryz.prog 17 #[.pointer none, .string k, .string v] w fun e w' => e = .returned (.int .i64 1) ∧ w' = w := by
  have f := err_nil w
  go_enter Tryz.func17, Tryz.ntmps17
  go_wp2_with (go_at_call 25; (with_reducible refine f.mono ?_); rintro e w1 ⟨rfl, hw1⟩; rw [hw1]; clear hw1)
  go_ret
  exact ⟨rfl, rfl⟩
theorem scommit_nil (w : World) : Calls Tryz.prog 15 #[.pointer none] w fun e w' => e = .returned (.int .i64 1) ∧ w' = w := by
  have f := err_nil w
  go_enter Tryz.func15, Tryz.ntmps15
  go_wp2_with (go_at_call 25; (with_reducible refine f.mono ?_); rintro e w1 ⟨rfl, hw1⟩; rw [hw1]; clear hw1)
  go_ret
  exact ⟨rfl, rfl⟩
theorem sgen_nil (w : World) : Calls Tryz.prog 27 #[.pointer none] w fun e w' => e = .returned (.int .u64 0) ∧ w' = w := by
  go_enter Tryz.func27, Tryz.ntmps27
  go_wp2
  go_ret
  exact ⟨rfl, rfl⟩
theorem sleft_nil (w : World) : Calls Tryz.prog 26 #[.pointer none] w fun e w' => e = .returned (.int .i64 0) ∧ w' = w := by
  go_enter Tryz.func26, Tryz.ntmps26
  go_wp2
  go_ret
  exact ⟨rfl, rfl⟩

theorem smayKey_no (w : World) (k : ByteArray) (hk : 64 < k.size) : Calls Tryz.prog 33 #[.string k] w fun e w' => e = .returned (.bool false) ∧ w' = w := by
  have h : ¬ (k.size : Int) ≤ 64 := by omega
  go_enter Tryz.func33, Tryz.ntmps33
  go_wp2
  go_ret
  exact ⟨rfl, rfl⟩
theorem sput_key {w : World} {s d p t : Nat} {db : Bool} (hS : StAt w s d p t 0 db) (k x : ByteArray) (hk : 64 < k.size) : Calls Tryz.prog 17 #[.pointer (some ⟨s, 0, none⟩), .string k, .string x] w fun e w' => e = .returned (.int .i64 1) ∧ w' = w := by
  have f1 := err_walk hS
  have f2 := smayKey_no w k hk
  go_enter Tryz.func17, Tryz.ntmps17
  go_wp2_with (first
    | (go_at_call 25; (with_reducible refine f1.mono ?_); rintro e w1 ⟨rfl, hw1⟩; rw [hw1]; clear hw1)
    | (go_at_call 33; (with_reducible refine f2.mono ?_); rintro e w1 ⟨rfl, hw1⟩; rw [hw1]; clear hw1))
  go_ret
  exact ⟨rfl, rfl⟩
theorem sput_long {w : World} {s d p t : Nat} {db : Bool} (hS : StAt w s d p t 0 db) (k x : ByteArray) (hk : k.size ≤ 64) (hx : 65536 < x.size) : Calls Tryz.prog 17 #[.pointer (some ⟨s, 0, none⟩), .string k, .string x] w fun e w' => e = .returned (.int .i64 1) ∧ w' = w := by
  have f1 := err_walk hS
  have f2 := smayKey_walk w k hk
  have h : (65536 : Int) < (x.size : Nat) := by omega
  go_enter Tryz.func17, Tryz.ntmps17
  go_wp2_with (first
    | (go_at_call 25; (with_reducible refine f1.mono ?_); rintro e w1 ⟨rfl, hw1⟩; rw [hw1]; clear hw1)
    | (go_at_call 33; (with_reducible refine f2.mono ?_); rintro e w1 ⟨rfl, hw1⟩; rw [hw1]; clear hw1))
  go_ret
  exact ⟨rfl, rfl⟩

set_option maxRecDepth 100000 in
theorem skeys_none {w : World} {s d p t : Nat} {db : Bool} (hS : StAt w s d p t 0 db) (hT : TAt w t p (-1)) (a b : ByteArray) :
    Calls Tryz.prog 24 #[.pointer (some ⟨s, 0, none⟩), .string a, .string b, .int .i64 1000] w fun e w' => e = .returned (.tuple #[.slice none 0 0, .slice none 0 0, .int .i64 0]) ∧ Kept w w' := by
  have f1 := err_walk hS
  obtain ⟨c0, c1, c2, c3, c4⟩ := hS.cs
  have f2 : Calls Tryz.prog 42 #[.pointer (some ⟨t, 0, none⟩), .string a, .string b, .int .i64 1000] w fun e w' => (∃ q c, e = .returned (.tuple #[.slice q 0 c, .int .i64 0])) ∧ Kept w w' := by
    refine (range_walk (pt := some ⟨t, 0, none⟩) (s := a) (tz := b) (most := 1000) (l := []) (Z := []) (fun W key k => seek_nil (hT.kept k)) (by decide)).mono ?_
    rintro e w' ⟨q, n, c, rfl, hR, k⟩
    have hn : n = 0 := by
      have := hR.len
      simp [rng, frm, pcl] at this
      omega
    subst hn
    exact ⟨⟨q, c, rfl⟩, k⟩
  clear hS hT
  go_enter Tryz.func24, Tryz.ntmps24
  go_wp2_with (first
    | (go_at_call 25; (with_reducible refine f1.mono ?_); rintro e w1 ⟨rfl, hw1⟩; rw [hw1]; clear hw1)
    | (go_at_call 42; (with_reducible refine f2.mono ?_); rintro e w2 ⟨⟨q, c, rfl⟩, k2⟩))
  refine wp_loop_rounds 1 ?_
  rw [rounds_succ]
  go_wp2
  go_ret3
  exact ⟨rfl, k2⟩

set_option maxRecDepth 100000 in
theorem all_none {w : World} {s d p t : Nat} {db : Bool} (hS : StAt w s d p t 0 db) (hT : TAt w t p (-1)) :
    Calls Tryz.prog 20 #[.pointer (some ⟨s, 0, none⟩), .slice none 0 0] w fun e w' => e = .returned (.bool true) ∧ Kept w w' := by
  have f1 := skeys_none hS hT ⟨#[]⟩ ⟨#[255, 255, 255, 255, 255, 255, 255]⟩
  clear hS hT
  go_enter Tryz.func20, Tryz.ntmps20
  go_wp2_with (go_at_call 24; (with_reducible refine f1.mono ?_); rintro e w1 ⟨rfl, k1⟩)
  refine wp_loop_rounds 1 ?_
  rw [rounds_succ]
  go_wp2
  go_ret
  exact ⟨rfl, k1⟩

theorem info8 : (Tryz.prog.info? 5).map (fun i => (i.zero, i.size, i.bytes)) = some (some (.int .u8 0), 1, 1) := by kernel_rfl
theorem made_text (n : Nat) (hn : n ≤ 100000) (W : World) : ∃ w1, (Instr.makeSlice 56 (.int .i64 (n : Nat)) (.int .i64 (n : Nat))).run Tryz.prog W = .ok (.slice (some ⟨W.heap.size, 0, none⟩) n n) w1 ∧ (convert 56 9 (.slice (some ⟨W.heap.size, 0, none⟩) n n)).run Tryz.prog w1 = .ok (.string (P.bs (List.replicate n 0))) w1 ∧ Kept W w1 := by
  obtain ⟨i, hi, hz, hs, hby⟩ := info_parts info8
  obtain ⟨w1, mk, ow, gw⟩ := run_makeSlice_full (P := Tryz.prog) W W.heap.size 56 5 i _ 1 Tryz.underlying56 hi hz hs .i64 .i64 n (by omega) (by rw [hby]; omega) (by unfold maxLen; omega) (Nat.le_refl _)
  refine ⟨w1, mk, ?_, ⟨(Below.refl _ W).grown gw (Nat.le_refl _) (fun _ e => by cases e)⟩⟩
  have e : (madeCells #[Value.int .u8 0] (n * 1)).toList = P.cellsOf (List.replicate n 0) := by
    rw [toList_madeCells_one, Nat.mul_one]
    simp [P.cellsOf]
  have ow' : w1.ownsRow W.heap.size 5 1 (.slice (some ⟨W.heap.size, 0, none⟩) n n) n (P.cellsOf (List.replicate n 0)) := by rw [← e]; exact ow
  have e2 : n = (List.replicate n 0).length := by simp
  have := P.own_text (l := List.replicate n 0) (v := .slice (some ⟨W.heap.size, 0, none⟩) n n) (by rw [← e2]; exact ow')
  exact this

structure Sn (W : World) (s : Nat) : Prop where
  out : ∃ d p t, StAt W s d p t 0 false ∧ TAt W t p (-1)
theorem Sn.kept {W W' : World} {s : Nat} (h : Sn W s) (k : Kept W W') : Sn W' s := by
  obtain ⟨d, p, t, a, b⟩ := h.out
  exact ⟨d, p, t, a.kept k, b.kept k⟩

set_option maxRecDepth 100000 in
set_option maxHeartbeats 4000000 in
theorem none_law {w : World} (hL : S.Lds w) (k v : ByteArray) : Calls Tryz.prog 7 #[.string k, .string v] w fun e w' => e = .returned (.bool true) ∧ Kept w w' := by
  have a1 := sundo_nil w
  have a2 := sget_nil k w
  have a3 := sdelete_nil k w
  have a4 := skeys_nil k v 3 w
  have h : CutsAt 0 w (.slice none 0 0) [] := ⟨none, 0, rfl, Nat.le_refl _, Nat.zero_le _, fun j hj => by cases hj⟩
  have a5 : Calls Tryz.prog 8 #[.int .i64 20, .slice none 0 0] w _ := D.new_walk 20 (by omega) h (Nat.zero_le _) (Nat.zero_le _) (by intro _ h; cases h)
  have a6 : Hid (∀ W, Kept w W → Calls Tryz.prog 9 #[] W fun e w' => e = .returned (.bool true) ∧ Kept W w') := fun W q => awake_walk (lds_kept hL q)
  have a7 : Hid (∀ W b g, DiskAt w.heap.size W b g (Dk.new 20 []) → Kept w W → Calls Tryz.prog 10 #[.pointer (some ⟨b, 0, none⟩)] W fun e w' => ∃ s, e = .returned (.tuple #[.pointer (some ⟨s, 0, none⟩), .int .i64 0]) ∧ Sn w' s ∧ Kept w w') := fun W b g hD q => by
    refine (open_new hD q.size (by decide) (by decide)).mono ?_
    rintro e w' ⟨s, dk, rfl, a1, a2, o⟩
    obtain ⟨t, p, S1, T1, _⟩ := a1.out
    exact ⟨s, rfl, ⟨_, _, _, S1, T1⟩, ⟨q.out.trans o.below⟩⟩
  obtain ⟨T, hT⟩ : ∃ T, P.bs (List.replicate 65 0) = T := ⟨_, rfl⟩
  have hTs : T.size = 65 := by rw [← hT, P.bs_size, List.length_replicate]
  obtain ⟨U, hU⟩ : ∃ U, P.bs (List.replicate 65537 0) = U := ⟨_, rfl⟩
  have hUs : U.size = 65537 := by rw [← hU, P.bs_size, List.length_replicate]
  have a8 : Hid (∀ W s x, Sn W s → Calls Tryz.prog 17 #[.pointer (some ⟨s, 0, none⟩), .string T, .string x] W fun e w' => e = .returned (.int .i64 1) ∧ w' = W) := fun W s x hs => by
    obtain ⟨d, p, t, S1, T1⟩ := hs.out
    exact sput_key S1 T x (by omega)
  have a9 : Hid (∀ W s, Sn W s → Calls Tryz.prog 17 #[.pointer (some ⟨s, 0, none⟩), .string ⟨#[97]⟩, .string U] W fun e w' => e = .returned (.int .i64 1) ∧ w' = W) := fun W s hs => by
    obtain ⟨d, p, t, S1, T1⟩ := hs.out
    exact sput_long S1 ⟨#[97]⟩ U (by decide) (by omega)
  have b1 : Hid (∀ W s, Sn W s → Calls Tryz.prog 25 #[.pointer (some ⟨s, 0, none⟩)] W fun e w' => e = .returned (.int .i64 0) ∧ w' = W) := fun W s hs => by
    obtain ⟨d, p, t, S1, T1⟩ := hs.out
    exact err_walk S1
  have b2 : Hid (∀ W s, Sn W s → Calls Tryz.prog 20 #[.pointer (some ⟨s, 0, none⟩), .slice none 0 0] W fun e w' => e = .returned (.bool true) ∧ Kept W w') := fun W s hs => by
    obtain ⟨d, p, t, S1, T1⟩ := hs.out
    exact all_none S1 T1
  have b3 : Hid (∀ W, Calls Tryz.prog 17 #[.pointer none, .string k, .string v] W fun e w' => e = .returned (.int .i64 1) ∧ w' = W) := fun W => sput_nil k v W
  have b4 : Hid (∀ W, Calls Tryz.prog 15 #[.pointer none] W fun e w' => e = .returned (.int .i64 1) ∧ w' = W) := fun W => scommit_nil W
  have b5 : Hid (∀ W, Calls Tryz.prog 27 #[.pointer none] W fun e w' => e = .returned (.int .u64 0) ∧ w' = W) := fun W => sgen_nil W
  have b6 : Hid (∀ W, Calls Tryz.prog 26 #[.pointer none] W fun e w' => e = .returned (.int .i64 0) ∧ w' = W) := fun W => sleft_nil W
  have b7 : Hid (∀ W, Calls Tryz.prog 25 #[.pointer none] W fun e w' => e = .returned (.int .i64 1) ∧ w' = W) := fun W => err_nil W
  have mt : Hid (∀ W : World, ∃ w1, (Instr.makeSlice 56 (.int .i64 65) (.int .i64 65)).run Tryz.prog W = .ok (.slice (some ⟨W.heap.size, 0, none⟩) 65 65) w1 ∧ (convert 56 9 (.slice (some ⟨W.heap.size, 0, none⟩) 65 65)).run Tryz.prog w1 = .ok (.string T) w1 ∧ Kept W w1) := fun W => by
    have := made_text 65 (by decide) W
    rw [hT] at this
    exact this
  have mu : Hid (∀ W : World, ∃ w1, (Instr.makeSlice 56 (.int .i64 65537) (.int .i64 65537)).run Tryz.prog W = .ok (.slice (some ⟨W.heap.size, 0, none⟩) 65537 65537) w1 ∧ (convert 56 9 (.slice (some ⟨W.heap.size, 0, none⟩) 65537 65537)).run Tryz.prog w1 = .ok (.string U) w1 ∧ Kept W w1) := fun W => by
    have := made_text 65537 (by decide) W
    rw [hU] at this
    exact this
  obtain ⟨mn, hm0, hm1⟩ : ∃ mn : Nat, min (v.size : Int) 9 = (mn : Int) ∧ mn ≤ v.size := ⟨min v.size 9, by omega, by omega⟩
  have hm2 : (0 : Int) ≤ (mn : Int) := by omega
  have hm3 : (mn : Int) ≤ (v.size : Int) := by omega
  clear hT hTs hU hUs h hL hm1
  generalize Dk.new 20 [] = dn at a5 a7
  go_enter Tryz.func7, Tryz.ntmps7
  go_upto_region 10 with (first
    | (go_at_call 16; (with_reducible refine a1.mono ?_); rintro e w1 ⟨rfl, hw1⟩; rw [hw1]; clear hw1)
    | (go_at_call 23; (with_reducible refine a2.mono ?_); rintro e w1 ⟨rfl, hw1⟩; rw [hw1]; clear hw1)
    | (go_at_call 13; (with_reducible refine a3.mono ?_); rintro e w1 ⟨rfl, hw1⟩; rw [hw1]; clear hw1)
    | (go_at_call 24; (with_reducible refine a4.mono ?_); rintro e w1 ⟨rfl, hw1⟩; rw [hw1]; clear hw1)
    | (go_at_call 8; (with_reducible refine a5.mono ?_); rintro e w1 ⟨b, g, rfl, D1, k1⟩; have K1 : Kept w w1 := ⟨k1.out⟩; have g6 := a6.out _ K1; have HD1 : Hid (DiskAt w.heap.size w1 b g dn) := D1; clear a5 D1 k1)
    | (go_at_call 9; (with_reducible refine g6.mono ?_); rintro e w2 ⟨rfl, k2⟩; have g7 := a7.out _ b g (D.Kept.dk ⟨k2.out⟩ HD1.out) (K1.trans k2); clear g6 HD1)
    | (go_at_call 10; (with_reducible refine g7.mono ?_); rintro e w3 ⟨s, rfl, S3, k3⟩; have HS3 : Hid (Sn w3 s ∧ Kept w w3) := ⟨S3, k3⟩; clear g7 S3 k3))
  clear a1 a2 a3 a4 a6 a7
  go_cut [17] (fun rv wx => rv = .int .i64 1 ∧ Hid (Sn wx s ∧ Kept w wx))
  case first =>
    obtain ⟨w4, m10, m20, m3⟩ := mt.out w3.drew
    have m1 : (Instr.makeSlice 56 (.int .i64 65) (.int .i64 65)).run Tryz.prog w3.drew = .ok (.slice (some ⟨w3.heap.size, 0, none⟩) 65 65) w4 := m10
    have m2 : (convert 56 9 (.slice (some ⟨w3.heap.size, 0, none⟩) 65 65)).run Tryz.prog w4 = .ok (.string T) w4 := m20
    clear m10 m20
    have S4 : Sn w4 s := (HS3.out.1.kept ((Kept.refl _).drew)).kept m3
    have g8 := fun x => a8.out w4 s x S4
    have HF : Hid (Sn w4 s ∧ Kept w w4) := ⟨S4, (HS3.out.2.trans ((Kept.refl _).drew)).trans m3⟩
    clear m3 S4 mt mu
    go_region_with (first
      | (go_at_call 17; (with_reducible refine (g8 _).mono ?_); rintro e w5 ⟨rfl, hw5⟩; rw [hw5]; clear hw5))
    all_goals go_wp2_with fail
    all_goals go_meet
    all_goals exact ⟨rfl, HF⟩
  case rest =>
    obtain ⟨rfl, HS5⟩ := hcut
    obtain ⟨w6, m1, m2, m3⟩ := mu.out wc
    have S6 : Sn w6 s := HS5.out.1.kept m3
    have g9 := a9.out w6 s S6
    have c1 := b1.out w6 s S6
    have c2 := b2.out w6 s S6
    have HF : Hid (Kept w w6) := HS5.out.2.trans m3
    clear m3 S6 mt mu HS5 a8 a9 b1 b2
    go_wp2_with (first
      | (go_at_call 17; (with_reducible refine g9.mono ?_); rintro e w5 ⟨rfl, hw5⟩; rw [hw5]; clear hw5 g9)
      | (go_at_call 17; (with_reducible refine (b3.out _).mono ?_); rintro e w5 ⟨rfl, hw5⟩; rw [hw5]; clear hw5)
      | (go_at_call 15; (with_reducible refine (b4.out _).mono ?_); rintro e w5 ⟨rfl, hw5⟩; rw [hw5]; clear hw5)
      | (go_at_call 27; (with_reducible refine (b5.out _).mono ?_); rintro e w5 ⟨rfl, hw5⟩; rw [hw5]; clear hw5)
      | (go_at_call 26; (with_reducible refine (b6.out _).mono ?_); rintro e w5 ⟨rfl, hw5⟩; rw [hw5]; clear hw5)
      | (go_at_call 25; (with_reducible refine (b7.out _).mono ?_); rintro e w5 ⟨rfl, hw5⟩; rw [hw5]; clear hw5)
      | (go_at_call 25; (with_reducible refine c1.mono ?_); rintro e w5 ⟨rfl, hw5⟩; rw [hw5]; clear hw5)
      | (go_at_call 20; (with_reducible refine c2.mono ?_); rintro e w7 ⟨rfl, k7⟩; have K7 := HF.out.trans k7; clear c2))
    go_ret
    exact ⟨by first | rfl | decide, K7⟩
end Go.Proofs.YtifeihnhkbagpaaGreatDoor.T