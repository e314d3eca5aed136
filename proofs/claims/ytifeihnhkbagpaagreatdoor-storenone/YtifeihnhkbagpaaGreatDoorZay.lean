/- Joined: NNJ NNK. What is proved of the functions beneath StoreNone. Conditions: those that each row names. -/
import Derived.Test.YtifeihnhkbagpaaGreatDoorZax
import Derived.Deep.AppendLies
namespace Go.Proofs.YtifeihnhkbagpaaGreatDoor.N
open Go.ChangeShapes Go.WideShapes Go.ChangeAt Go.RowKit

theorem icl_append (a b : List Int) : icl (a ++ b) = icl a ++ icl b := by simp [icl]
theorem ob (p : Option Addr) (n c : Nat) : (Value.slice p n c).ownBlock = blk p := by cases p <;> rfl

theorem text_walkB (s : ByteArray) (h : s.size ≤ 100000) (w : World) : Calls Tryz.prog 233 #[.string s] w fun e w' => e = .returned (.string (bs (numL s.size ++ un s))) ∧ Kept w w' := by
  have a := text_walk (un s) (by rw [un_length]; exact h) w
  rwa [bs_un, un_length] at a

def valN (v : Vl) : List Nat := if v.p < 0 then numL 0 ++ (numL v.d.size ++ un v.d) else numL 1 ++ (numL v.p.toNat ++ numL v.l.toNat)
def keyN (k : ByteArray) : List Nat := numL k.size ++ un k

theorem num_small (n : Nat) (h : n ≤ 16432) : (numL n).length ≤ 3 := numL_length 2 n (by omega)
theorem keyN_length (k : ByteArray) (h : k.size ≤ 64) : (keyN k).length ≤ 65 := by
  unfold keyN
  rw [List.length_append, un_length, numL_last (by omega)]
  simp; omega
theorem valN_length (v : Vl) (h : Okv v) : (valN v).length ≤ 50 := by
  unfold valN
  rcases h with ⟨h1, h2, h3⟩ | ⟨h1, p, l, h2, h3, h4, h5, h6⟩
  · rw [if_pos (by omega), numL_last (by omega), numL_last (by omega)]
    simp [un_length]; omega
  · rw [if_neg (by omega), numL_last (by omega), h2, h4]
    have a := num_small p (by omega)
    have b := num_small l (by omega)
    simp
    omega

set_option maxHeartbeats 2000000 in
set_option maxRecDepth 100000 in
theorem item_inner {w : World} {kb ko nk kc ib io ni ic : Nat} {vp : Option Addr} {nv vc : Nat} {i : Nat} {k : ByteArray} {q : Nat} (hi : i < nk) (hi2 : i + 1 < ni) (hnk : nk ≤ 1000) (hc : w.cell? ⟨kb, ko + i, none⟩ = some (.string k)) (hc2 : w.cell? ⟨ib, io + (i + 1), none⟩ = some (.int .i64 (q : Nat))) (hks : k.size ≤ 64) (hq : q ≤ 16432) :
    Calls Tryz.prog 216 #[.agg #[.bool false, .slice (some ⟨kb, ko, none⟩) nk kc, .slice vp nv vc, .slice (some ⟨ib, io, none⟩) ni ic], .int .i64 (i : Nat)] w fun e w' => e = .returned (.string (bs (keyN k ++ numL q))) ∧ Kept w w' := by
  have HT : Hid (∀ W, Calls Tryz.prog 233 #[.string k] W fun e w' => e = .returned (.string (bs (keyN k))) ∧ Kept W w') := fun W => text_walkB k (by omega) W
  have HN : Hid (∀ W, Calls Tryz.prog 215 #[.int .i64 (q : Nat)] W fun e w' => e = .returned (.string (bs (numL q))) ∧ Kept W w') := fun W => number_walk q (by omega) W
  have hap := bs_append (keyN k) (numL q)
  have z1 := keyN_length k hks
  have z2 := num_small q hq
  rw [← bs_size] at z1 z2
  generalize bs (keyN k) = s1 at *
  generalize bs (numL q) = s2 at *
  have HA : Hid (s1 ++ s2 = bs (keyN k ++ numL q)) := hap
  clear hap
  have hi' : (i : Int) < (nk : Int) := by omega
  have hi2' : (i : Int) + 1 < (ni : Int) := by omega
  have u1 : IntKind.i64.wrap ((i : Int) + 1) = (i : Int) + 1 := by rw [IntKind.wrap_i64]; omega
  have u2 : ((i : Int) + 1).toNat = i + 1 := by omega
  have y1 : ¬ 9223372036854775807 < s1.size + s2.size := by omega
  have k0 : Kept w (w.alloc (.cells #[.bool false, .slice (some ⟨kb, ko, none⟩) nk kc, .slice vp nv vc, .slice (some ⟨ib, io, none⟩) ni ic] 121)) := (Kept.refl w).alloc _
  have X0 := C4.alloc w 121 (.bool false) (.slice (some ⟨kb, ko, none⟩) nk kc) (.slice vp nv vc) (.slice (some ⟨ib, io, none⟩) ni ic)
  have c0 := k0.cell hc
  have c1 := k0.cell hc2
  go_enter Tryz.func216, Tryz.ntmps216
  go_wp2_with (first
    | (go_at_call 233
       (with_reducible refine (HT.out _).mono ?_)
       rintro e v1 ⟨rfl, k1⟩
       have X1 := X0.kept k1
       have d1 := k1.cell c1
       obtain ⟨a0, a1, a2, a3⟩ := X1.cs)
    | (go_at_call 215
       (with_reducible refine (HN.out _).mono ?_)
       rintro e v2 ⟨rfl, k2⟩))
  go_ret
  rw [HA.out]
  exact ⟨rfl, (k0.trans k1).trans k2⟩

set_option maxHeartbeats 2000000 in
set_option maxRecDepth 100000 in
theorem item_here {w : World} {kb ko nk kc vb vo nv vc : Nat} {ip : Option Addr} {ni ic : Nat} {i : Nat} {k d : ByteArray} (hi : i < nk) (hi2 : i < nv) (hc : w.cell? ⟨kb, ko + i, none⟩ = some (.string k)) (hc0 : w.cell? ⟨vb, vo + i * 3, none⟩ = some (.string d)) (hc1 : w.cell? ⟨vb, vo + i * 3 + 1, none⟩ = some (.int .i64 (-1))) (hc2 : w.cell? ⟨vb, vo + i * 3 + 2, none⟩ = some (.int .i64 0)) (hks : k.size ≤ 64) (hd : d.size ≤ 48) :
    Calls Tryz.prog 216 #[.agg #[.bool true, .slice (some ⟨kb, ko, none⟩) nk kc, .slice (some ⟨vb, vo, none⟩) nv vc, .slice ip ni ic], .int .i64 (i : Nat)] w fun e w' => e = .returned (.string (bs (keyN k ++ (numL 0 ++ (numL d.size ++ un d))))) ∧ Kept w w' := by
  have HT : Hid (∀ W, Calls Tryz.prog 233 #[.string k] W fun e w' => e = .returned (.string (bs (keyN k))) ∧ Kept W w') := fun W => text_walkB k (by omega) W
  have HD : Hid (∀ W, Calls Tryz.prog 233 #[.string d] W fun e w' => e = .returned (.string (bs (numL d.size ++ un d))) ∧ Kept W w') := fun W => text_walkB d (by omega) W
  have HN : Hid (∀ W, Calls Tryz.prog 215 #[.int .i64 0] W fun e w' => e = .returned (.string (bs (numL 0))) ∧ Kept W w') := fun W => number_walk 0 (by omega) W
  have hap : bs (keyN k) ++ bs (numL 0) ++ bs (numL d.size ++ un d) = bs (keyN k ++ (numL 0 ++ (numL d.size ++ un d))) := by rw [bs_append, bs_append, List.append_assoc]
  have z1 := keyN_length k hks
  have z2 := num_small 0 (by omega)
  have z3 : (numL d.size ++ un d).length ≤ 60 := by rw [List.length_append, un_length]; have := num_small d.size (by omega); omega
  rw [← bs_size] at z1 z2 z3
  generalize bs (keyN k) = s1 at *
  generalize bs (numL 0) = s2 at *
  generalize bs (numL d.size ++ un d) = s3 at *
  have HA : Hid (s1 ++ s2 ++ s3 = bs (keyN k ++ (numL 0 ++ (numL d.size ++ un d)))) := hap
  clear hap
  have hi' : (i : Int) < (nk : Int) := by omega
  have hi2' : (i : Int) < (nv : Int) := by omega
  have y1 : ¬ 9223372036854775807 < s1.size + s2.size := by omega
  have y2 : ¬ 9223372036854775807 < s1.size + s2.size + s3.size := by omega
  have k0 : Kept w (w.alloc (.cells #[.bool true, .slice (some ⟨kb, ko, none⟩) nk kc, .slice (some ⟨vb, vo, none⟩) nv vc, .slice ip ni ic] 121)) := (Kept.refl w).alloc _
  have X0 := C4.alloc w 121 (.bool true) (.slice (some ⟨kb, ko, none⟩) nk kc) (.slice (some ⟨vb, vo, none⟩) nv vc) (.slice ip ni ic)
  have c0 := k0.cell hc
  have c1 := k0.cell hc0
  have c2 := k0.cell hc1
  have c3 := k0.cell hc2
  go_enter Tryz.func216, Tryz.ntmps216
  go_wp2_with (first
    | (go_at_call 233
       (with_reducible refine (HT.out _).mono ?_)
       rintro e v1 ⟨rfl, k1⟩
       have X1 := X0.kept k1
       have d1 := k1.cell c1
       have d2 := k1.cell c2
       have d3 := k1.cell c3
       obtain ⟨a0, a1, a2, a3⟩ := X1.cs
       clear HT
       have Y1 := (C3.alloc v1 77 (.string d) (.int .i64 (-1)) (.int .i64 0)).drew
       obtain ⟨b0, b1, b2⟩ := Y1.cs))
  go_region_held3 (fun W => W.cell? ⟨v1.heap.size, 0, none⟩ = some (.string d)) (go_keep) (first
    | (go_at_call 215
       (with_reducible refine (HN.out _).mono ?_)
       rintro e v2 ⟨rfl, k2⟩
       have Y2 := Y1.kept k2
       have e0 := Y2.cs.1)
    | (go_at_call 233
       (with_reducible refine (HD.out _).mono ?_)
       rintro e v3 ⟨rfl, k3⟩
       have Y3 := Y2.kept k3
       have f0 := Y3.cs.1))
  go_wp2
  go_ret
  rw [HA.out]
  exact ⟨rfl, (((k0.trans k1).trans ((Kept.refl v1).alloc _).drew).trans k2).trans k3⟩

set_option maxHeartbeats 2000000 in
set_option maxRecDepth 100000 in
theorem item_apart {w : World} {kb ko nk kc vb vo nv vc : Nat} {ip : Option Addr} {ni ic : Nat} {i : Nat} {k d : ByteArray} {p l : Nat} (hi : i < nk) (hi2 : i < nv) (hc : w.cell? ⟨kb, ko + i, none⟩ = some (.string k)) (hc0 : w.cell? ⟨vb, vo + i * 3, none⟩ = some (.string d)) (hc1 : w.cell? ⟨vb, vo + i * 3 + 1, none⟩ = some (.int .i64 (p : Nat))) (hc2 : w.cell? ⟨vb, vo + i * 3 + 2, none⟩ = some (.int .i64 (l : Nat))) (hks : k.size ≤ 64) (hp : p ≤ 16432) (hl : l ≤ 16432) :
    Calls Tryz.prog 216 #[.agg #[.bool true, .slice (some ⟨kb, ko, none⟩) nk kc, .slice (some ⟨vb, vo, none⟩) nv vc, .slice ip ni ic], .int .i64 (i : Nat)] w fun e w' => e = .returned (.string (bs (keyN k ++ (numL 1 ++ (numL p ++ numL l))))) ∧ Kept w w' := by
  have HT : Hid (∀ W, Calls Tryz.prog 233 #[.string k] W fun e w' => e = .returned (.string (bs (keyN k))) ∧ Kept W w') := fun W => text_walkB k (by omega) W
  have HN : Hid (∀ W, Calls Tryz.prog 215 #[.int .i64 1] W fun e w' => e = .returned (.string (bs (numL 1))) ∧ Kept W w') := fun W => number_walk 1 (by omega) W
  have HP : Hid (∀ W, Calls Tryz.prog 215 #[.int .i64 (p : Nat)] W fun e w' => e = .returned (.string (bs (numL p))) ∧ Kept W w') := fun W => number_walk p (by omega) W
  have HL : Hid (∀ W, Calls Tryz.prog 215 #[.int .i64 (l : Nat)] W fun e w' => e = .returned (.string (bs (numL l))) ∧ Kept W w') := fun W => number_walk l (by omega) W
  have hap : bs (keyN k) ++ bs (numL 1) ++ bs (numL p) ++ bs (numL l) = bs (keyN k ++ (numL 1 ++ (numL p ++ numL l))) := by rw [bs_append, bs_append, bs_append, List.append_assoc, List.append_assoc]
  have z1 := keyN_length k hks
  have z2 := num_small 1 (by omega)
  have z3 := num_small p hp
  have z4 := num_small l hl
  rw [← bs_size] at z1 z2 z3 z4
  generalize bs (keyN k) = s1 at *
  generalize bs (numL 1) = s2 at *
  generalize bs (numL p) = s3 at *
  generalize bs (numL l) = s4 at *
  have HA : Hid (s1 ++ s2 ++ s3 ++ s4 = bs (keyN k ++ (numL 1 ++ (numL p ++ numL l)))) := hap
  clear hap
  have hi' : (i : Int) < (nk : Int) := by omega
  have hi2' : (i : Int) < (nv : Int) := by omega
  have y1 : ¬ 9223372036854775807 < s1.size + s2.size := by omega
  have y2 : ¬ 9223372036854775807 < s1.size + s2.size + s3.size := by omega
  have y3 : ¬ 9223372036854775807 < s1.size + s2.size + s3.size + s4.size := by omega
  have y0 : ¬ ((p : Int) < 0) := by omega
  have k0 : Kept w (w.alloc (.cells #[.bool true, .slice (some ⟨kb, ko, none⟩) nk kc, .slice (some ⟨vb, vo, none⟩) nv vc, .slice ip ni ic] 121)) := (Kept.refl w).alloc _
  have X0 := C4.alloc w 121 (.bool true) (.slice (some ⟨kb, ko, none⟩) nk kc) (.slice (some ⟨vb, vo, none⟩) nv vc) (.slice ip ni ic)
  have c0 := k0.cell hc
  have c1 := k0.cell hc0
  have c2 := k0.cell hc1
  have c3 := k0.cell hc2
  go_enter Tryz.func216, Tryz.ntmps216
  go_wp2_with (first
    | (go_at_call 233
       (with_reducible refine (HT.out _).mono ?_)
       rintro e v1 ⟨rfl, k1⟩
       have X1 := X0.kept k1
       have d1 := k1.cell c1
       have d2 := k1.cell c2
       have d3 := k1.cell c3
       obtain ⟨a0, a1, a2, a3⟩ := X1.cs
       clear HT
       have Y1 := (C3.alloc v1 77 (.string d) (.int .i64 (p : Nat)) (.int .i64 (l : Nat))).drew
       obtain ⟨b0, b1, b2⟩ := Y1.cs))
  go_region_held3 (fun W => W.cell? ⟨v1.heap.size, 1, none⟩ = some (.int .i64 (p : Nat)) ∧ W.cell? ⟨v1.heap.size, 2, none⟩ = some (.int .i64 (l : Nat))) (go_keep) (first
    | (go_at_call 215
       (with_reducible refine (HN.out _).mono ?_)
       rintro e v2 ⟨rfl, k2⟩
       clear HN
       have Y2 := Y1.kept k2
       obtain ⟨_, e1, e2⟩ := Y2.cs)
    | (go_at_call 215
       (with_reducible refine (HP.out _).mono ?_)
       rintro e v3 ⟨rfl, k3⟩
       clear HP
       have Y3 := Y2.kept k3
       obtain ⟨_, f1, f2⟩ := Y3.cs)
    | (go_at_call 215
       (with_reducible refine (HL.out _).mono ?_)
       rintro e v4 ⟨rfl, k4⟩
       have Y4 := Y3.kept k4
       obtain ⟨_, g1, g2⟩ := Y4.cs))
  go_wp2
  go_ret
  rw [HA.out]
  exact ⟨rfl, ((((k0.trans k1).trans ((Kept.refl v1).alloc _).drew).trans k2).trans k3).trans k4⟩
end Go.Proofs.YtifeihnhkbagpaaGreatDoor.N