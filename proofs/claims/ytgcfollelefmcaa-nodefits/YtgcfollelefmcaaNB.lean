/- The walks of node.whole, node.leafOf and node.Copy: a node's own copy. Conditions: 100000 pieces at most, as many values, or kids, as go with the keys. -/
import Derived.Test.YtgcfollelefmcaaNA
namespace Go.Proofs.Ytgcfollelefmcaa
open Go.ChangeShapes Go.WideShapes Go.ChangeAt Go.RowKit

theorem grown_set (w : World) (a : Addr) (v : Value) : w.grownBy (w.setCell a v) (some a.block) :=
  ⟨rfl, rfl, rfl, by simp [World.setCell], fun k _ hne => heap_setCell_other w a k v (fun e => hne (by rw [e]))⟩

theorem Own.far {w : World} {B : Nat} {e : TypeId} {sz : Nat} {p : Option Addr} {n c : Nat} {cs : List Value} (k : Own w B e sz p n c cs) (a : Addr) (v : Value) (h : a.block < B) : Own (w.setCell a v) B e sz p n c cs := by
  refine ⟨k.out.kept (grown_set w a v) ?_⟩
  cases hq : (Value.slice p n c).ownBlock with
  | none => exact .inl rfl
  | some g => exact .inr (fun he => by have := (k.out.lt g hq).1; injection he with he; omega)

theorem Own.st4 {W : World} {B b : Nat} {e : TypeId} {sz : Nat} {p : Option Addr} {n c : Nat} {cs : List Value} (k : Own W B e sz p n c cs) (h : b < B) (v0 v1 v2 v3 : Value) : Own ((((W.setCell ⟨b, 0, none⟩ v0).setCell ⟨b, 1, none⟩ v1).setCell ⟨b, 2, none⟩ v2).setCell ⟨b, 3, none⟩ v3) B e sz p n c cs :=
  (((k.far ⟨b, 0, none⟩ v0 h).far ⟨b, 1, none⟩ v1 h).far ⟨b, 2, none⟩ v2 h).far ⟨b, 3, none⟩ v3 h
theorem Own.st3 {W : World} {B b : Nat} {e : TypeId} {sz : Nat} {p : Option Addr} {n c : Nat} {cs : List Value} (k : Own W B e sz p n c cs) (h : b < B) (v0 v1 v2 : Value) : Own (((W.setCell ⟨b, 0, none⟩ v0).setCell ⟨b, 1, none⟩ v1).setCell ⟨b, 2, none⟩ v2) B e sz p n c cs :=
  ((k.far ⟨b, 0, none⟩ v0 h).far ⟨b, 1, none⟩ v1 h).far ⟨b, 2, none⟩ v2 h
theorem Kept.st4 {w W : World} {b : Nat} (h : Kept w W) (hb : w.heap.size ≤ b) (v0 v1 v2 v3 : Value) : Kept w ((((W.setCell ⟨b, 0, none⟩ v0).setCell ⟨b, 1, none⟩ v1).setCell ⟨b, 2, none⟩ v2).setCell ⟨b, 3, none⟩ v3) :=
  (((h.set (a := ⟨b, 0, none⟩) hb v0).set (a := ⟨b, 1, none⟩) hb v1).set (a := ⟨b, 2, none⟩) hb v2).set (a := ⟨b, 3, none⟩) hb v3
theorem Kept.st3 {w W : World} {b : Nat} (h : Kept w W) (hb : w.heap.size ≤ b) (v0 v1 v2 : Value) : Kept w (((W.setCell ⟨b, 0, none⟩ v0).setCell ⟨b, 1, none⟩ v1).setCell ⟨b, 2, none⟩ v2) :=
  ((h.set (a := ⟨b, 0, none⟩) hb v0).set (a := ⟨b, 1, none⟩) hb v1).set (a := ⟨b, 2, none⟩) hb v2

set_option maxHeartbeats 2000000 in
set_option maxRecDepth 100000 in
theorem whole_leaf {w : World} {kp vp ip : Option Addr} {n kc vc ni ic : Nat} {KC VC : List Value} (hk : Rw w 1 kp n kc KC) (hv : Rw w 3 vp n vc VC) (h1 : ∀ u ∈ KC, u.oneCell' = true) (h2 : ∀ u ∈ VC, u.oneCell' = true) (hn : n ≤ 100000) :
    Calls Try.prog 27 #[.agg #[.bool true, .slice kp n kc, .slice vp n vc, .slice ip ni ic]] w fun e w' => ∃ kp' kc' vp', e = .returned (.agg #[.bool true, .slice kp' n kc', .slice vp' n n, .slice none 0 0]) ∧ Own w' w.heap.size 9 1 kp' n kc' KC ∧ Own w' w.heap.size 49 3 vp' n n VC ∧ Kept w w' := by
  have HC : Hid (∀ W, Kept w W → Calls Try.prog 41 #[.slice kp n kc] W fun e w' => ∃ p' c', e = .returned (.slice p' n c') ∧ Own w' W.heap.size 9 1 p' n c' KC ∧ Kept W w') := fun W hW => clone41 (hW.rw hk) hn h1
  have HS : Hid (∀ W, Kept w W → Calls Try.prog 55 #[.slice vp n vc, .int .i64 (n : Nat), .agg #[.string ⟨#[]⟩, .int .i64 (-1), .int .i64 0]] W fun e w' => ∃ p', e = .returned (.slice p' n n) ∧ Own w' W.heap.size 49 3 p' n n VC ∧ Kept W w') := fun W hW => sized55 ⟨#[]⟩ (-1) 0 (hW.rw hv) hn h2
  obtain ⟨o1, ho1⟩ : ∃ o : Obj, o = .cells #[.bool true, .slice kp n kc, .slice vp n vc, .slice ip ni ic] 27 := ⟨_, rfl⟩
  obtain ⟨o2, ho2⟩ : ∃ o : Obj, o = .cells #[.bool false, .slice none 0 0, .slice none 0 0, .slice none 0 0] 27 := ⟨_, rfl⟩
  have K0 : Kept w ((w.alloc o1).alloc o2).drew := (((Kept.refl w).alloc _).alloc _).drew
  have P0 : C4 ((w.alloc o1).alloc o2).drew w.heap.size 27 (.bool true) (.slice kp n kc) (.slice vp n vc) (.slice ip ni ic) := by subst ho1; exact (((C4.alloc w 27 _ _ _ _).kept ((Kept.refl _).alloc _))).drew
  have R0 : C4 ((w.alloc o1).alloc o2).drew (w.heap.size + 1) 27 (.bool false) (.slice none 0 0) (.slice none 0 0) (.slice none 0 0) := by subst ho2; rw [← size_alloc w o1]; exact (C4.alloc _ 27 _ _ _ _).drew
  subst ho1; subst ho2
  obtain ⟨c0, c1, c2, c3⟩ := P0.cs
  clear hk hv h1 h2
  go_enter Try.func27, Try.ntmps27
  go_wp2_with fail
  go_region_held3 (fun W => W.cell? ⟨w.heap.size, 1, none⟩ = some (.slice kp n kc) ∧ W.cell? ⟨w.heap.size, 2, none⟩ = some (.slice vp n vc)) (go_keep) (first
    | (go_at_call 41; (with_reducible refine (HC.out _ K0).mono ?_); rintro e v1 ⟨kp', kc', rfl, O1, k1⟩; have P1 := P0.kept k1; have R1 := R0.kept k1; have K1 := K0.trans k1; obtain ⟨c10, c11, c12, c13⟩ := P1.cs)
    | (go_at_call 47; (with_reducible refine (nothing_walk _).mono ?_); rintro e v2 ⟨rfl, k2⟩; have P2 := P1.kept k2; have R2 := R1.kept k2; have K2 := K1.trans k2; obtain ⟨c20, c21, c22, c23⟩ := P2.cs)
    | (go_at_call 55; (with_reducible refine (HS.out _ K2).mono ?_); rintro e v3 ⟨vp', rfl, O3, k3⟩; have R3 := R2.kept k3; have K3 := K2.trans k3; have P3 := P2.kept k3; obtain ⟨c30, c31, c32, c33⟩ := P3.cs; obtain ⟨⟨g0, f0⟩, ⟨g1, f1⟩, ⟨g2, f2⟩, ⟨g3, f3⟩, hfin⟩ := ready4 R3.out (.bool true) (.slice kp' n kc') (.slice vp' n n) (.slice none 0 0)))
  all_goals generalize hW : ((((v3.setCell ⟨(w.heap.size + 1), 0, none⟩ (.bool true)).setCell ⟨(w.heap.size + 1), 1, none⟩ (.slice kp' n kc')).setCell ⟨(w.heap.size + 1), 2, none⟩ (.slice vp' n n)).setCell ⟨(w.heap.size + 1), 3, none⟩ (.slice none 0 0)) = WF at hfin ⊢
  go_wp2
  refine bodyPost_ret (v := .agg #[.bool true, .slice kp' n kc', .slice vp' n n, .slice none 0 0]) ?_ rfl ⟨_, _, _, rfl, ?_, ?_, ?_⟩
  · exact results_cell_row (p := 2) rfl _ _ (w.heap.size + 1) 27 #[.bool true, .slice kp' n kc', .slice vp' n n, .slice none 0 0] (0, 0) _ rfl hfin Try.underlying27 rfl size27
  · have hb := R0.lt
    rw [← hW]
    exact (((O1.kept (k2.trans k3)).st4 hb _ _ _ _).mono K0.size)
  · have hb := R2.lt
    rw [← hW]
    exact ((O3.st4 hb _ _ _ _).mono K2.size)
  · rw [← hW]
    exact K3.st4 (by omega) _ _ _ _
set_option maxHeartbeats 2000000 in
set_option maxRecDepth 100000 in
theorem whole_inner {w : World} {kp vp ip : Option Addr} {n kc nv vc ic : Nat} {KC VC : List Value} (hk : Rw w 1 kp n kc KC) (hv : Rw w 1 ip (n + 1) ic VC) (h1 : ∀ u ∈ KC, u.oneCell' = true) (h2 : ∀ u ∈ VC, u.oneCell' = true) (hn : n + 1 ≤ 100000) :
    Calls Try.prog 27 #[.agg #[.bool false, .slice kp n kc, .slice vp nv vc, .slice ip (n + 1) ic]] w fun e w' => ∃ kp' kc' vp', e = .returned (.agg #[.bool false, .slice kp' n kc', .slice none 0 0, .slice vp' (n + 1) (n + 1)]) ∧ Own w' w.heap.size 9 1 kp' n kc' KC ∧ Own w' w.heap.size 3 1 vp' (n + 1) (n + 1) VC ∧ Kept w w' := by
  have HC : Hid (∀ W, Kept w W → Calls Try.prog 41 #[.slice kp n kc] W fun e w' => ∃ p' c', e = .returned (.slice p' n c') ∧ Own w' W.heap.size 9 1 p' n c' KC ∧ Kept W w') := fun W hW => clone41 (hW.rw hk) (by omega) h1
  have HS : Hid (∀ W, Kept w W → Calls Try.prog 56 #[.slice ip (n + 1) ic, .int .i64 ((n : Int) + 1), .int .i64 (-1)] W fun e w' => ∃ p', e = .returned (.slice p' (n + 1) (n + 1)) ∧ Own w' W.heap.size 3 1 p' (n + 1) (n + 1) VC ∧ Kept W w') := fun W hW => by have a := sized56 (-1) (hW.rw hv) (by omega) h2; rwa [Int.natCast_add] at a
  obtain ⟨o1, ho1⟩ : ∃ o : Obj, o = .cells #[.bool false, .slice kp n kc, .slice vp nv vc, .slice ip (n + 1) ic] 27 := ⟨_, rfl⟩
  obtain ⟨o2, ho2⟩ : ∃ o : Obj, o = .cells #[.bool false, .slice none 0 0, .slice none 0 0, .slice none 0 0] 27 := ⟨_, rfl⟩
  have K0 : Kept w ((w.alloc o1).alloc o2).drew := (((Kept.refl w).alloc _).alloc _).drew
  have P0 : C4 ((w.alloc o1).alloc o2).drew w.heap.size 27 (.bool false) (.slice kp n kc) (.slice vp nv vc) (.slice ip (n + 1) ic) := by subst ho1; exact (((C4.alloc w 27 _ _ _ _).kept ((Kept.refl _).alloc _))).drew
  have R0 : C4 ((w.alloc o1).alloc o2).drew (w.heap.size + 1) 27 (.bool false) (.slice none 0 0) (.slice none 0 0) (.slice none 0 0) := by subst ho2; rw [← size_alloc w o1]; exact (C4.alloc _ 27 _ _ _ _).drew
  subst ho1; subst ho2
  obtain ⟨c0, c1, c2, c3⟩ := P0.cs
  have u1 : IntKind.i64.wrap ((n : Int) + 1) = (n : Int) + 1 := by rw [IntKind.wrap_i64]; omega
  clear hk hv h1 h2
  go_enter Try.func27, Try.ntmps27
  go_wp2_with fail
  go_region_held3 (fun W => W.cell? ⟨w.heap.size, 1, none⟩ = some (.slice kp n kc) ∧ W.cell? ⟨w.heap.size, 3, none⟩ = some (.slice ip (n + 1) ic)) (go_keep) (first
    | (go_at_call 41; (with_reducible refine (HC.out _ K0).mono ?_); rintro e v1 ⟨kp', kc', rfl, O1, k1⟩; have P1 := P0.kept k1; have R1 := R0.kept k1; have K1 := K0.trans k1; obtain ⟨c10, c11, c12, c13⟩ := P1.cs)
    | (go_at_call 56; (with_reducible refine (HS.out _ K1).mono ?_); rintro e v3 ⟨vp', rfl, O3, k3⟩; have R3 := R1.kept k3; have K3 := K1.trans k3; have P3 := P1.kept k3; obtain ⟨c30, c31, c32, c33⟩ := P3.cs; obtain ⟨⟨g0, f0⟩, ⟨g1, f1⟩, ⟨g2, f2⟩, ⟨g3, f3⟩, hfin⟩ := ready4 R3.out (.bool false) (.slice kp' n kc') (.slice none 0 0) (.slice vp' (n + 1) (n + 1))))
  all_goals generalize hW : ((((v3.setCell ⟨(w.heap.size + 1), 0, none⟩ (.bool false)).setCell ⟨(w.heap.size + 1), 1, none⟩ (.slice kp' n kc')).setCell ⟨(w.heap.size + 1), 2, none⟩ (.slice none 0 0)).setCell ⟨(w.heap.size + 1), 3, none⟩ (.slice vp' (n + 1) (n + 1))) = WF at hfin ⊢
  go_wp2
  refine bodyPost_ret (v := .agg #[.bool false, .slice kp' n kc', .slice none 0 0, .slice vp' (n + 1) (n + 1)]) ?_ rfl ⟨_, _, _, rfl, ?_, ?_, ?_⟩
  · exact results_cell_row (p := 2) rfl _ _ (w.heap.size + 1) 27 #[.bool false, .slice kp' n kc', .slice none 0 0, .slice vp' (n + 1) (n + 1)] (0, 0) _ rfl hfin Try.underlying27 rfl size27
  · have hb := R0.lt
    rw [← hW]
    exact (((O1.kept k3).st4 hb _ _ _ _).mono K0.size)
  · have hb := R1.lt
    rw [← hW]
    exact ((O3.st4 hb _ _ _ _).mono K1.size)
  · rw [← hW]
    exact K3.st4 (by omega) _ _ _ _

set_option maxHeartbeats 2000000 in
set_option maxRecDepth 100000 in
theorem leafOf_walk {w : World} {l : Bool} {kp vp ip : Option Addr} {n kc vc ni ic : Nat} {KC VC : List Value} (hk : Rw w 1 kp n kc KC) (hv : Rw w 3 vp n vc VC) (h1 : ∀ u ∈ KC, u.oneCell' = true) (h2 : ∀ u ∈ VC, u.oneCell' = true) (hn : n ≤ 100000) :
    Calls Try.prog 44 #[.agg #[.bool l, .slice kp n kc, .slice vp n vc, .slice ip ni ic]] w fun e w' => ∃ kp' kc' vp', e = .returned (.agg #[.bool true, .slice kp' n kc', .slice vp' n n, .slice none 0 0]) ∧ Own w' w.heap.size 9 1 kp' n kc' KC ∧ Own w' w.heap.size 49 3 vp' n n VC ∧ Kept w w' := by
  have HC : Hid (∀ W, Kept w W → Calls Try.prog 27 #[.agg #[.bool true, .slice kp n kc, .slice vp n vc, .slice none 0 0]] W fun e w' => ∃ kp' kc' vp', e = .returned (.agg #[.bool true, .slice kp' n kc', .slice vp' n n, .slice none 0 0]) ∧ Own w' W.heap.size 9 1 kp' n kc' KC ∧ Own w' W.heap.size 49 3 vp' n n VC ∧ Kept W w') := fun W hW => whole_leaf (hW.rw hk) (hW.rw hv) h1 h2 hn
  obtain ⟨o1, ho1⟩ : ∃ o : Obj, o = .cells #[.bool l, .slice kp n kc, .slice vp n vc, .slice ip ni ic] 27 := ⟨_, rfl⟩
  obtain ⟨o2, ho2⟩ : ∃ o : Obj, o = .cells #[.bool false, .slice none 0 0, .slice none 0 0, .slice none 0 0] 27 := ⟨_, rfl⟩
  have K0 : Kept w ((w.alloc o1).alloc o2) := ((Kept.refl w).alloc _).alloc _
  have R0 : C4 ((w.alloc o1).alloc o2) (w.heap.size + 1) 27 (.bool false) (.slice none 0 0) (.slice none 0 0) (.slice none 0 0) := by subst ho2; rw [← size_alloc w o1]; exact C4.alloc _ 27 _ _ _ _
  subst ho1; subst ho2
  clear hk hv h1 h2
  go_enter Try.func44, Try.ntmps44
  go_wp2_with (go_at_call 27; (with_reducible refine (HC.out _ K0).mono ?_); rintro e v3 ⟨kp', kc', vp', rfl, O1, O3, k1⟩; have R3 := R0.kept k1; have K3 := K0.trans k1; obtain ⟨⟨g0, f0⟩, ⟨g1, f1⟩, ⟨g2, f2⟩, ⟨g3, f3⟩, hfin⟩ := ready4 R3.out (.bool true) (.slice kp' n kc') (.slice vp' n n) (.slice none 0 0))
  generalize hW : ((((v3.setCell ⟨(w.heap.size + 1), 0, none⟩ (.bool true)).setCell ⟨(w.heap.size + 1), 1, none⟩ (.slice kp' n kc')).setCell ⟨(w.heap.size + 1), 2, none⟩ (.slice vp' n n)).setCell ⟨(w.heap.size + 1), 3, none⟩ (.slice none 0 0)) = WF at hfin ⊢
  refine bodyPost_ret (v := .agg #[.bool true, .slice kp' n kc', .slice vp' n n, .slice none 0 0]) ?_ rfl ⟨_, _, _, rfl, ?_, ?_, ?_⟩
  · exact results_cell_row (p := 2) rfl _ _ (w.heap.size + 1) 27 #[.bool true, .slice kp' n kc', .slice vp' n n, .slice none 0 0] (0, 0) _ rfl hfin Try.underlying27 rfl size27
  · have hb := R0.lt
    rw [← hW]
    exact ((O1.st4 hb _ _ _ _).mono K0.size)
  · have hb := R0.lt
    rw [← hW]
    exact ((O3.st4 hb _ _ _ _).mono K0.size)
  · rw [← hW]
    exact K3.st4 (by omega) _ _ _ _

set_option maxHeartbeats 2000000 in
set_option maxRecDepth 100000 in
theorem copy_walk {w : World} {l : Bool} {kp vp ip : Option Addr} {n kc nv vc ni ic : Nat} {KC VC IC : List Value} (hk : Rw w 1 kp n kc KC) (hv : Rw w 3 vp nv vc VC) (hi : Rw w 1 ip ni ic IC) (h1 : ∀ u ∈ KC, u.oneCell' = true) (h2 : ∀ u ∈ VC, u.oneCell' = true) (h3 : ∀ u ∈ IC, u.oneCell' = true) (hn : n ≤ 100000) (hnv : nv ≤ 100000) (hni : ni ≤ 100000) :
    Calls Try.prog 17 #[.agg #[.bool l, .slice kp n kc, .slice vp nv vc, .slice ip ni ic]] w fun e w' => ∃ kp' kc' vp' vc' ip' ic', e = .returned (.agg #[.bool l, .slice kp' n kc', .slice vp' nv vc', .slice ip' ni ic']) ∧ Own w' w.heap.size 9 1 kp' n kc' KC ∧ Own w' w.heap.size 49 3 vp' nv vc' VC ∧ Own w' w.heap.size 3 1 ip' ni ic' IC ∧ Kept w w' := by
  have HC : Hid (∀ W, Kept w W → Calls Try.prog 41 #[.slice kp n kc] W fun e w' => ∃ p' c', e = .returned (.slice p' n c') ∧ Own w' W.heap.size 9 1 p' n c' KC ∧ Kept W w') := fun W hW => clone41 (hW.rw hk) hn h1
  have HS : Hid (∀ W, Kept w W → Calls Try.prog 42 #[.slice vp nv vc] W fun e w' => ∃ p' c', e = .returned (.slice p' nv c') ∧ Own w' W.heap.size 49 3 p' nv c' VC ∧ Kept W w') := fun W hW => clone42 (hW.rw hv) hnv h2
  have HI : Hid (∀ W, Kept w W → Calls Try.prog 43 #[.slice ip ni ic] W fun e w' => ∃ p' c', e = .returned (.slice p' ni c') ∧ Own w' W.heap.size 3 1 p' ni c' IC ∧ Kept W w') := fun W hW => clone43 (hW.rw hi) hni h3
  obtain ⟨o1, ho1⟩ : ∃ o : Obj, o = .cells #[.bool l, .slice kp n kc, .slice vp nv vc, .slice ip ni ic] 27 := ⟨_, rfl⟩
  obtain ⟨o2, ho2⟩ : ∃ o : Obj, o = .cells #[.bool false, .slice none 0 0, .slice none 0 0, .slice none 0 0] 27 := ⟨_, rfl⟩
  have K0 : Kept w ((w.alloc o1).alloc o2).drew := (((Kept.refl w).alloc _).alloc _).drew
  have P0 : C4 ((w.alloc o1).alloc o2).drew w.heap.size 27 (.bool l) (.slice kp n kc) (.slice vp nv vc) (.slice ip ni ic) := by subst ho1; exact (((C4.alloc w 27 _ _ _ _).kept ((Kept.refl _).alloc _))).drew
  have R0 : C4 ((w.alloc o1).alloc o2).drew (w.heap.size + 1) 27 (.bool false) (.slice none 0 0) (.slice none 0 0) (.slice none 0 0) := by subst ho2; rw [← size_alloc w o1]; exact (C4.alloc _ 27 _ _ _ _).drew
  subst ho1; subst ho2
  obtain ⟨c0, c1, c2, c3⟩ := P0.cs
  clear hk hv h1 h2 hi h3
  go_enter Try.func17, Try.ntmps17
  go_wp2_with fail
  go_region_held3 (fun W => W.cell? ⟨w.heap.size, 0, none⟩ = some (.bool l) ∧ W.cell? ⟨w.heap.size, 1, none⟩ = some (.slice kp n kc) ∧ W.cell? ⟨w.heap.size, 2, none⟩ = some (.slice vp nv vc) ∧ W.cell? ⟨w.heap.size, 3, none⟩ = some (.slice ip ni ic)) (go_keep) (first
    | (go_at_call 41; (with_reducible refine (HC.out _ K0).mono ?_); rintro e v1 ⟨kp', kc', rfl, O1, k1⟩; have P1 := P0.kept k1; have R1 := R0.kept k1; have K1 := K0.trans k1; obtain ⟨c10, c11, c12, c13⟩ := P1.cs)
    | (go_at_call 42; (with_reducible refine (HS.out _ K1).mono ?_); rintro e v2 ⟨vp', vc', rfl, O2, k2⟩; have P2 := P1.kept k2; have R2 := R1.kept k2; have K2 := K1.trans k2; obtain ⟨c20, c21, c22, c23⟩ := P2.cs)
    | (go_at_call 43; (with_reducible refine (HI.out _ K2).mono ?_); rintro e v3 ⟨ip', ic', rfl, O3, k3⟩; have R3 := R2.kept k3; have K3 := K2.trans k3; have P3 := P2.kept k3; obtain ⟨c30, c31, c32, c33⟩ := P3.cs; obtain ⟨⟨g0, f0⟩, ⟨g1, f1⟩, ⟨g2, f2⟩, ⟨g3, f3⟩, hfin⟩ := ready4 R3.out (.bool l) (.slice kp' n kc') (.slice vp' nv vc') (.slice ip' ni ic')))
  all_goals generalize hW : ((((v3.setCell ⟨(w.heap.size + 1), 0, none⟩ (.bool l)).setCell ⟨(w.heap.size + 1), 1, none⟩ (.slice kp' n kc')).setCell ⟨(w.heap.size + 1), 2, none⟩ (.slice vp' nv vc')).setCell ⟨(w.heap.size + 1), 3, none⟩ (.slice ip' ni ic')) = WF at hfin ⊢
  go_wp2
  refine bodyPost_ret (v := .agg #[.bool l, .slice kp' n kc', .slice vp' nv vc', .slice ip' ni ic']) ?_ rfl ⟨_, _, _, _, _, _, rfl, ?_, ?_, ?_, ?_⟩
  · exact results_cell_row (p := 2) rfl _ _ (w.heap.size + 1) 27 #[.bool l, .slice kp' n kc', .slice vp' nv vc', .slice ip' ni ic'] (0, 0) _ rfl hfin Try.underlying27 rfl size27
  · have hb := R0.lt
    rw [← hW]
    exact (((O1.kept (k2.trans k3)).st4 hb _ _ _ _).mono K0.size)
  · have hb := R1.lt
    rw [← hW]
    exact (((O2.kept k3).st4 hb _ _ _ _).mono K1.size)
  · have hb := R2.lt
    rw [← hW]
    exact ((O3.st4 hb _ _ _ _).mono K2.size)
  · rw [← hW]
    exact K3.st4 (by omega) _ _ _ _
end Go.Proofs.Ytgcfollelefmcaa
