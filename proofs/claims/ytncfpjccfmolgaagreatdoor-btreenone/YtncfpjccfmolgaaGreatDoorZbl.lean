/- Joined: TXa TY TZa UA. What is proved of the functions beneath BtreeNone. Conditions: those that each row names. -/
import Derived.Test.YtncfpjccfmolgaaGreatDoorZbk
import Derived.Laws.MakeOwn
namespace Go.Proofs.YtncfpjccfmolgaaGreatDoor.T
open Go.ChangeShapes Go.WideShapes Go.ChangeAt Go.RowKit
open B (path_zero stpAt fm Pm pt Stp plc Ext WfN us Lv Sg Pf Mk En R Tr Tree con path path_length path_pf path_next cA cC got path_got Wf tr_deep put_leaf ksum_le)
open N (Nd NV NZ Nw Rw Rx Own Kept kcl vcl icl Vl C4 C3 Up blk fnd isk oldV setK setV delK delV Okv)

theorem mayVal_ok (w : World) (d : ByteArray) (hd : d.size ≤ 48) : Calls Tryz.prog 34 #[.agg #[.string d, .int .i64 (-1), .int .i64 0]] w fun e w' => e = .returned (.bool true) ∧ Kept w w' := by
  have K0 : Kept w (w.alloc (.cells #[.string d, .int .i64 (-1), .int .i64 0] 33)) := (Kept.refl w).alloc _
  obtain ⟨x0, x1, x2⟩ := (C3.alloc w 33 (.string d) (.int .i64 (-1)) (.int .i64 0)).cs
  have h1 : (d.size : Int) ≤ 48 := by omega
  go_enter Tryz.func34, Tryz.ntmps34
  go_wp2
  go_ret
  exact ⟨rfl, K0⟩
theorem set_nil_k (key : ByteArray) : setK [] key = [key] := by simp [setK, isk, N.ins, fnd]
theorem set_nil_v (key : ByteArray) (v : Vl) : setV [] [] key v = [v] := by simp [setV, isk, N.ins, fnd]
theorem old_nil (key : ByteArray) : oldV [] [] key = ⟨⟨#[]⟩, -1, 0⟩ := by simp [oldV, isk]
theorem isk_nil (key : ByteArray) : isk key [] = false := by simp [isk]
theorem one_small {key : ByteArray} {v : Vl} (hk : key.size ≤ 64) (hv : Okv v) : N.Good ⟨true, [key], [v], []⟩ ∧ (⟨true, [key], [v], []⟩ : Nd).put.length ≤ 237 := by
  have g : N.Good ⟨true, [key], [v], []⟩ := ⟨by simp, fun k h => by simp at h; rw [h]; exact hk, fun _ => ⟨rfl, rfl⟩, (fun e => by cases e), fun x h => by simp at h; rw [h]; exact hv, fun i h => by cases h⟩
  refine ⟨g, ?_⟩
  rw [put_leaf g rfl]
  have h1 := ksum_le [key] (fun k h => by simp at h; rw [h]; exact hk)
  have h2 : N.vsum [v] ≤ 50 := by
    have := N.valN_length _ hv
    simp [N.vsum]; omega
  simp at h1
  show 1 + N.ksum [key] + N.vsum [v] ≤ 237
  omega

theorem put_empty {B : Nat} {w : World} {t p m : Nat} {M : Pm} (key d : ByteArray) (hT : TAt w t p (-1)) (hBt : B ≤ t) (hV : Pv B w p m M) (hM : ∀ q, M q = none) (hB : B ≤ w.heap.size) (hL : S.Lds w) (hk : key.size ≤ 64) (hd : d.size ≤ 48) :
    Calls Tryz.prog 15 #[.pointer (some ⟨t, 0, none⟩), .string key, .agg #[.string d, .int .i64 (-1), .int .i64 0]] w (PPost 0 B t p m (-1) M [(key, ⟨d, -1, 0⟩)] ⟨⟨#[]⟩, -1, 0⟩ false w) := by
  have hv : Okv ⟨d, -1, 0⟩ := .inl ⟨rfl, rfl, hd⟩
  obtain ⟨g1, g2⟩ := one_small (key := key) hk hv
  refine put_core (ks' := [key]) (vs' := [⟨d, -1, 0⟩]) hT hB hk (fun W _ => mayVal_ok W d hd) (fun W k => ?_)
  refine (way_nil (key := key) (hT.kept k)).mono ?_
  rintro e w1 ⟨rfl, rfl⟩
  refine ⟨none, 0, 0, true, none, 0, 0, none, 0, 0, none, 0, 0, rfl, ⟨fun W1 _ => end_nil W1, fun W1 _ => ?_, fun W1 kp' mm kc' vp'' vc' k1 hN => ?_⟩, Kept.refl _⟩
  · have := N.set_walk (w := W1) (l := true) (kp := none) (vp := none) (ip := none) (n := 0) (kc := 0) (vc := 0) (ni := 0) (ic := 0) (ks := []) (vs := []) ⟨rfl, Nat.le_refl _, Nat.zero_le _, .inl ⟨rfl, rfl⟩⟩ ⟨rfl, Nat.le_refl _, Nat.zero_le _, .inl ⟨rfl, rfl⟩⟩ (by omega) key ⟨d, -1, 0⟩
    rw [set_nil_k, set_nil_v, old_nil, isk_nil] at this
    exact this
  · exact replace_nil ((hT.kept k).kept k1) hBt ((hV.kept k).kept k1) hM (Nat.le_trans hB (Nat.le_trans k.size k1.size)) (lds_kept (lds_kept hL k) k1) hN rfl g1 g2
end Go.Proofs.YtncfpjccfmolgaaGreatDoor.T

namespace Go.Proofs.YtncfpjccfmolgaaGreatDoor.T
open Go.ChangeShapes Go.WideShapes Go.ChangeAt Go.RowKit
open Go.Proofs.YtncfpjccfmolgaaGreatDoor.D (Dk DiskAt CutsAt Ok)
open G (fmt_new Liv fmtd_ok format_walk open_flu sd_zeros sd_state sup11 opened begin_flu)
open B (Pm Tree)
open N (Kept)

theorem ahead_at (k : Nat) : G.ahead k = decide (k < 2) := by
  unfold G.ahead S.useAt
  by_cases h0 : k = 0
  · subst h0; rfl
  · by_cases h1 : k = 1
    · subst h1; rfl
    · rw [if_neg h1, if_neg h0]; simp; omega
theorem pv_new {B : Nat} {w : World} {p b g n : Nat} {d : Dk} (h : G.GAt B w p b g (opened d (1, -1))) (hn : d.secs.length = n) (hc : d.cuts = []) (h2 : 2 ≤ n) (h3 : n ≤ 1024) : Pv B w p n (fun _ => none) :=
  ⟨⟨b, g, _, h, hn, ⟨by show 1 < 4000; omega, hc⟩, fun _ => rfl, fun k _ => by show G.ahead k = _; rw [ahead_at]; simp, fun k _ => ahead_at k⟩, (fun k x hx => by cases hx), h3, h2⟩

set_option maxRecDepth 100000 in
set_option maxHeartbeats 1000000 in
theorem begun_walk {w : World} (n : Nat) (h2 : 2 ≤ n) (h3 : n ≤ 1024) :
    Calls Tryz.prog 8 #[.int .i64 (n : Nat)] w fun e w' => ∃ t p, e = .returned (.tuple #[.pointer (some ⟨t, 0, none⟩), .pointer (some ⟨p, 0, none⟩), .bool true]) ∧ TAt w' t p (-1) ∧ Pv w.heap.size w' p n (fun _ => none) ∧ w.heap.size ≤ t ∧ Kept w w' := by
  have h : CutsAt 0 w (.slice none 0 0) [] := ⟨none, 0, rfl, Nat.le_refl _, Nat.zero_le _, fun j hj => by cases hj⟩
  have hv : Liv (Dk.new n []) 7 := ⟨rfl, by intro _ _ h; cases h⟩
  have f1 := D.new_walk n (by omega) h (Nat.zero_le _) (Nat.zero_le _) (by intro _ h; cases h)
  obtain ⟨d1, ef, fl, ln, s0, s1, cu, fa, si⟩ := fmt_new n h2 [] (hv.mono (by omega))
  have ok1 : Ok 5 d1 := by have := fmtd_ok (D.new_ok n []); rw [ef] at this; exact this
  have lv1 : Liv d1 2 := ⟨fl.up, fun c r hc => by rw [cu] at hc; cases hc⟩
  have f2 : ∀ W b g, DiskAt w.heap.size W b g (Dk.new n []) → w.heap.size ≤ W.heap.size → Calls Tryz.prog 23 #[.pointer (some ⟨b, 0, none⟩)] W fun e w' => e = .returned (.int .i64 0) ∧ DiskAt w.heap.size w' b g d1 ∧ D.On w.heap.size W w' := fun W b g k kB => by
    have := format_walk k kB (D.new_ok n []) (by omega)
    rw [ef] at this
    exact this
  have f3 : ∀ W b g, DiskAt w.heap.size W b g d1 → w.heap.size ≤ W.heap.size → Calls Tryz.prog 24 #[.pointer (some ⟨b, 0, none⟩)] W fun e w' => ∃ p, e = .returned (.tuple #[.pointer (some ⟨p, 0, none⟩), .int .i64 0]) ∧ Pv w.heap.size w' p n (fun _ => none) ∧ G.On w.heap.size W w' := fun W b g k kB => by
    refine (open_flu k kB ok1 (by omega) fl lv1 (by omega) (by omega) s0 s1 (o0 := none) (o1 := some (1, -1)) (sd_zeros 0) (sd_state sup11 rfl) (1, -1) rfl).mono ?_
    rintro e w' ⟨p, rfl, a, o⟩
    exact ⟨p, rfl, pv_new a ln cu h2 h3, o⟩
  have f4 : ∀ W p, Calls Tryz.prog 25 #[.pointer (some ⟨p, 0, none⟩), .int .i64 (-1)] W fun e w' => e = .returned (.pointer (some ⟨W.heap.size, 0, none⟩)) ∧ TAt w' W.heap.size p (-1) ∧ Kept W w' := fun W p => new_walk W p (-1)
  clear ef fl ln s0 s1 cu fa si ok1 lv1 hv h h2 h3
  generalize Dk.new n [] = dn at f1 f2
  go_enter Tryz.func8, Tryz.ntmps8
  go_wp2_with (first
    | (go_at_call 22; (with_reducible refine f1.mono ?_); rintro e w1 ⟨b, g, rfl, k1, K1⟩; have g2 := f2 w1 b g k1 K1.size)
    | (go_at_call 23; (with_reducible refine g2.mono ?_); rintro e w2 ⟨rfl, k2, o2⟩; have B2 := Nat.le_trans K1.size o2.size; have g3 := f3 w2 b g k2 B2)
    | (go_at_call 24; (with_reducible refine g3.mono ?_); rintro e w3 ⟨p, rfl, V3, o3⟩; have g4 := f4 w3 p)
    | (go_at_call 25; (with_reducible refine g4.mono ?_); rintro e w4 ⟨rfl, T4, k4⟩))
  go_ret3
  exact ⟨_, p, rfl, T4, V3.kept k4, Nat.le_trans B2 o3.size, ⟨((K1.out.trans o2.below).trans o3.below).trans (k4.out.mono (Nat.le_trans B2 o3.size))⟩⟩
end Go.Proofs.YtncfpjccfmolgaaGreatDoor.T

namespace Go.Proofs.YtncfpjccfmolgaaGreatDoor.T
open Go.ChangeShapes Go.WideShapes Go.ChangeAt Go.RowKit
open B (Pm Tree En)
open N (Nd NV Kept Vl C4 C3 Own)

set_option maxRecDepth 100000 in
set_option maxHeartbeats 1000000 in
theorem awake_walk {w : World} (hL : S.Lds w) : Calls Tryz.prog 9 #[] w fun e w' => e = .returned (.bool true) ∧ Kept w w' := by
  have f1 : Calls Tryz.prog 8 #[.int .i64 9] w _ := begun_walk 9 (by decide) (by decide)
  have f2 : Hid (∀ (W : World) (t p : Nat), Kept w W → TAt W t p (-1) → Pv w.heap.size W p 9 (fun _ => none) → w.heap.size ≤ t → Calls Tryz.prog 15 #[.pointer (some ⟨t, 0, none⟩), .string ⟨#[97]⟩, .agg #[.string ⟨#[49]⟩, .int .i64 (-1), .int .i64 0]] W fun e w' => e = .returned (.tuple #[.agg #[.string ⟨#[]⟩, .int .i64 (-1), .int .i64 0], .bool false, .int .i64 0]) ∧ (∃ M' r, TAt w' t p r ∧ Pv w.heap.size w' p 9 M' ∧ TreeW M' r [(⟨#[97]⟩, ⟨⟨#[49]⟩, -1, 0⟩)]) ∧ Tx w.heap.size t W w') := fun W t p k hT hV ht => by
    refine (put_empty ⟨#[97]⟩ ⟨#[49]⟩ hT ht hV (fun _ => rfl) k.size (lds_kept hL k) (by decide) (by decide)).mono ?_
    rintro e w' (⟨rfl, M', r, tr, T5, V5, x5⟩ | ⟨rfl, M', er, _⟩)
    · exact ⟨rfl, ⟨M', r, T5, V5, TreeW.of tr (fun k x hx => (V5.rng k x hx).2.1) V5.few⟩, x5⟩
    · exfalso
      obtain ⟨a, b, c⟩ := er.out
      obtain rfl : a = [] := List.length_eq_zero_iff.1 (by omega)
      have h1 := c 2
      have h2 := er.full 2 (by decide) (by decide)
      unfold B.us at h1
      rw [h2] at h1
      simp at h1
  have f3 : Hid (∀ (W : World) (t p : Nat) (r : Int) (M : Pm), TAt W t p r → Pv w.heap.size W p 9 M → TreeW M r [(⟨#[97]⟩, ⟨⟨#[49]⟩, -1, 0⟩)] → Calls Tryz.prog 14 #[.pointer (some ⟨t, 0, none⟩), .string ⟨#[97]⟩] W fun e w' => e = .returned (.tuple #[.agg #[.string ⟨#[49]⟩, .int .i64 (-1), .int .i64 0], .bool true, .int .i64 0]) ∧ Kept W w') := fun W t p r M hT hV h => get_tree ⟨#[97]⟩ hT hV h
  clear hL
  go_enter Tryz.func9, Tryz.ntmps9
  go_wp2_with (first
    | (go_at_call 8; (with_reducible refine f1.mono ?_); rintro e w1 ⟨t, p, rfl, T1, V1, b1, k1⟩; have g2 := f2.out _ t p k1 T1 V1 b1; clear f1)
    | (go_at_call 15; (with_reducible refine g2.mono ?_); rintro e w2 ⟨rfl, ⟨M2, r2, T2, V2, tr2⟩, x2⟩; have ka : Kept w2 (w2.alloc (.cells #[.string ⟨#[]⟩, .int .i64 (-1), .int .i64 0] 33)) := (Kept.refl _).alloc _; have g3 := f3.out _ t p r2 M2 (T2.kept ka) (V2.kept ka) tr2; have hx : Hid (Tx w.heap.size t w1 w2) := x2; clear g2)
    | (go_at_call 14; (with_reducible refine g3.mono ?_); rintro e w3 ⟨rfl, k3⟩; obtain ⟨y0, y1, y2⟩ := (C3.alloc w3 33 (.string ⟨#[49]⟩) (.int .i64 (-1)) (.int .i64 0)).cs; have kb : Kept w3 (w3.alloc (.cells #[.string ⟨#[49]⟩, .int .i64 (-1), .int .i64 0] 33)) := (Kept.refl _).alloc _; clear g3))
  go_ret
  exact ⟨by first | rfl | decide, ⟨(k1.out.trans hx.out.below).trans (((ka.trans k3).trans kb).out.mono (Nat.le_trans k1.size hx.out.size))⟩⟩
end Go.Proofs.YtncfpjccfmolgaaGreatDoor.T

namespace Go.Proofs.YtncfpjccfmolgaaGreatDoor.T
open Go.ChangeShapes Go.WideShapes Go.ChangeAt Go.RowKit
open B (Pm Tree En)
open N (Nd NV Kept Vl C4 C3 Own)

theorem put_none (s d : ByteArray) (p l : Int) (w : World) : Calls Tryz.prog 15 #[.pointer none, .string s, .agg #[.string d, .int .i64 p, .int .i64 l]] w fun e w' => e = .returned (.tuple #[.agg #[.string ⟨#[]⟩, .int .i64 0, .int .i64 0], .bool false, .int .i64 1]) ∧ Kept w w' := by
  have K0 : Kept w ((w.alloc (.cells #[.string d, .int .i64 p, .int .i64 l] 33)).alloc (.cells #[.string ⟨#[]⟩, .int .i64 0, .int .i64 0] 33)) := ((Kept.refl w).alloc _).alloc _
  have R0 : C3 ((w.alloc (.cells #[.string d, .int .i64 p, .int .i64 l] 33)).alloc (.cells #[.string ⟨#[]⟩, .int .i64 0, .int .i64 0] 33)) (w.heap.size + 1) 33 (.string ⟨#[]⟩) (.int .i64 0) (.int .i64 0) := ⟨D.two_new w _ _⟩
  have f := none_nil ((w.alloc (.cells #[.string d, .int .i64 p, .int .i64 l] 33)).alloc (.cells #[.string ⟨#[]⟩, .int .i64 0, .int .i64 0] 33))
  go_enter Tryz.func15, Tryz.ntmps15
  go_wp2_with (go_at_call 26; (with_reducible refine f.mono ?_); rintro e w1 ⟨rfl, hw1⟩; rw [hw1]; clear hw1)
  refine bodyPost_ret (v := .tuple #[.agg #[.string ⟨#[]⟩, .int .i64 0, .int .i64 0], .bool false, .int .i64 1]) ?_ rfl ⟨rfl, K0⟩
  exact results_ctt (p := 6) (u := 7) (v := 8) (ty := 33) rfl _ _ (w.heap.size + 1) 33 #[.string ⟨#[]⟩, .int .i64 0, .int .i64 0] (0, 0) _ rfl R0.out Tryz.underlying33 rfl size33
theorem delete_none (s : ByteArray) (w : World) : Calls Tryz.prog 11 #[.pointer none, .string s] w fun e w' => e = .returned (.tuple #[.agg #[.string ⟨#[]⟩, .int .i64 0, .int .i64 0], .bool false, .int .i64 1]) ∧ Kept w w' := by
  have K0 : Kept w (w.alloc (.cells #[.string ⟨#[]⟩, .int .i64 0, .int .i64 0] 33)) := (Kept.refl w).alloc _
  have R0 := C3.alloc w 33 (.string ⟨#[]⟩) (.int .i64 0) (.int .i64 0)
  have f := none_nil (w.alloc (.cells #[.string ⟨#[]⟩, .int .i64 0, .int .i64 0] 33))
  go_enter Tryz.func11, Tryz.ntmps11
  go_wp2_with (go_at_call 26; (with_reducible refine f.mono ?_); rintro e w1 ⟨rfl, hw1⟩; rw [hw1]; clear hw1)
  refine bodyPost_ret (v := .tuple #[.agg #[.string ⟨#[]⟩, .int .i64 0, .int .i64 0], .bool false, .int .i64 1]) ?_ rfl ⟨rfl, K0⟩
  exact results_ctt (p := 4) (u := 5) (v := 6) (ty := 33) rfl _ _ w.heap.size 33 #[.string ⟨#[]⟩, .int .i64 0, .int .i64 0] (0, 0) _ rfl R0.out Tryz.underlying33 rfl size33
theorem get_none (s : ByteArray) (w : World) : Calls Tryz.prog 14 #[.pointer none, .string s] w fun e w' => e = .returned (.tuple #[.agg #[.string ⟨#[]⟩, .int .i64 0, .int .i64 0], .bool false, .int .i64 1]) ∧ Kept w w' := by
  have K0 : Kept w (w.alloc (.cells #[.string ⟨#[]⟩, .int .i64 0, .int .i64 0] 33)) := (Kept.refl w).alloc _
  have R0 := C3.alloc w 33 (.string ⟨#[]⟩) (.int .i64 0) (.int .i64 0)
  have f := none_nil (w.alloc (.cells #[.string ⟨#[]⟩, .int .i64 0, .int .i64 0] 33))
  go_enter Tryz.func14, Tryz.ntmps14
  go_wp2_with (go_at_call 26; (with_reducible refine f.mono ?_); rintro e w1 ⟨rfl, hw1⟩; rw [hw1]; clear hw1)
  refine bodyPost_ret (v := .tuple #[.agg #[.string ⟨#[]⟩, .int .i64 0, .int .i64 0], .bool false, .int .i64 1]) ?_ rfl ⟨rfl, K0⟩
  exact results_ctt (p := 4) (u := 5) (v := 6) (ty := 33) rfl _ _ w.heap.size 33 #[.string ⟨#[]⟩, .int .i64 0, .int .i64 0] (0, 0) _ rfl R0.out Tryz.underlying33 rfl size33
theorem put_badkey {w : World} {t p0 : Nat} {r : Int} (hT : TAt w t p0 r) (s d : ByteArray) (p l : Int) (hs : 64 < s.size) : Calls Tryz.prog 15 #[.pointer (some ⟨t, 0, none⟩), .string s, .agg #[.string d, .int .i64 p, .int .i64 l]] w fun e w' => e = .returned (.tuple #[.agg #[.string ⟨#[]⟩, .int .i64 0, .int .i64 0], .bool false, .int .i64 1]) ∧ Kept w w' := by
  have K0 : Kept w ((w.alloc (.cells #[.string d, .int .i64 p, .int .i64 l] 33)).alloc (.cells #[.string ⟨#[]⟩, .int .i64 0, .int .i64 0] 33)) := ((Kept.refl w).alloc _).alloc _
  have R0 : C3 ((w.alloc (.cells #[.string d, .int .i64 p, .int .i64 l] 33)).alloc (.cells #[.string ⟨#[]⟩, .int .i64 0, .int .i64 0] 33)) (w.heap.size + 1) 33 (.string ⟨#[]⟩) (.int .i64 0) (.int .i64 0) := ⟨D.two_new w _ _⟩
  have f := none_walk (hT.kept K0)
  have f2 : Hid (∀ W, Calls Tryz.prog 27 #[.string s] W fun e w' => e = .returned (.bool false) ∧ w' = W) := fun W => by have := mayKey_walk W s; rwa [decide_eq_false (by omega)] at this
  clear hs hT
  go_enter Tryz.func15, Tryz.ntmps15
  go_wp2_with (first
    | (go_at_call 26; (with_reducible refine f.mono ?_); rintro e w1 ⟨rfl, hw1⟩; rw [hw1]; clear hw1)
    | (go_at_call 27; (with_reducible refine (f2.out _).mono ?_); rintro e w1 ⟨rfl, hw1⟩; rw [hw1]; clear hw1))
  refine bodyPost_ret (v := .tuple #[.agg #[.string ⟨#[]⟩, .int .i64 0, .int .i64 0], .bool false, .int .i64 1]) ?_ rfl ⟨rfl, K0⟩
  exact results_ctt (p := 6) (u := 7) (v := 8) (ty := 33) rfl _ _ (w.heap.size + 1) 33 #[.string ⟨#[]⟩, .int .i64 0, .int .i64 0] (0, 0) _ rfl R0.out Tryz.underlying33 rfl size33
theorem put_badval {w : World} {t p0 : Nat} {r : Int} (hT : TAt w t p0 r) (s d : ByteArray) (p l : Int) (hs : s.size ≤ 64) (fm : ∀ W, Calls Tryz.prog 34 #[.agg #[.string d, .int .i64 p, .int .i64 l]] W fun e w' => e = .returned (.bool false) ∧ Kept W w') : Calls Tryz.prog 15 #[.pointer (some ⟨t, 0, none⟩), .string s, .agg #[.string d, .int .i64 p, .int .i64 l]] w fun e w' => e = .returned (.tuple #[.agg #[.string ⟨#[]⟩, .int .i64 0, .int .i64 0], .bool false, .int .i64 1]) ∧ Kept w w' := by
  have K0 : Kept w ((w.alloc (.cells #[.string d, .int .i64 p, .int .i64 l] 33)).alloc (.cells #[.string ⟨#[]⟩, .int .i64 0, .int .i64 0] 33)) := ((Kept.refl w).alloc _).alloc _
  have R0 : C3 ((w.alloc (.cells #[.string d, .int .i64 p, .int .i64 l] 33)).alloc (.cells #[.string ⟨#[]⟩, .int .i64 0, .int .i64 0] 33)) (w.heap.size + 1) 33 (.string ⟨#[]⟩) (.int .i64 0) (.int .i64 0) := ⟨D.two_new w _ _⟩
  have S5 : C3 ((w.alloc (.cells #[.string d, .int .i64 p, .int .i64 l] 33)).alloc (.cells #[.string ⟨#[]⟩, .int .i64 0, .int .i64 0] 33)) w.heap.size 33 (.string d) (.int .i64 p) (.int .i64 l) := ⟨((Kept.refl _).alloc _).block (heap_alloc_new w _)⟩
  obtain ⟨v0, v1, v2⟩ := S5.cs
  have f := none_walk (hT.kept K0)
  have f2 : Hid (∀ W, Calls Tryz.prog 27 #[.string s] W fun e w' => e = .returned (.bool true) ∧ w' = W) := fun W => by have := mayKey_walk W s; rwa [decide_eq_true hs] at this
  have f3 := fm ((w.alloc (.cells #[.string d, .int .i64 p, .int .i64 l] 33)).alloc (.cells #[.string ⟨#[]⟩, .int .i64 0, .int .i64 0] 33))
  clear hs hT fm
  go_enter Tryz.func15, Tryz.ntmps15
  go_wp2_with (first
    | (go_at_call 26; (with_reducible refine f.mono ?_); rintro e w1 ⟨rfl, hw1⟩; rw [hw1]; clear hw1)
    | (go_at_call 27; (with_reducible refine (f2.out _).mono ?_); rintro e w1 ⟨rfl, hw1⟩; rw [hw1]; clear hw1)
    | (go_at_call 34; (with_reducible refine f3.mono ?_); rintro e w1 ⟨rfl, k1⟩; have R1 := R0.kept k1; obtain ⟨⟨g0, i0⟩, ⟨g1, i1⟩, ⟨g2, i2⟩, hfin⟩ := N.ready3 R1.out (.string ⟨#[]⟩) (.int .i64 0) (.int .i64 0); have K1 := (K0.trans k1).st3 (b := w.heap.size + 1) (Nat.le_succ _) (.string ⟨#[]⟩) (.int .i64 0) (.int .i64 0)))
  generalize (((World.setCell _ ⟨w.heap.size + 1, 0, none⟩ (.string ⟨#[]⟩)).setCell ⟨w.heap.size + 1, 1, none⟩ (.int .i64 0)).setCell ⟨w.heap.size + 1, 2, none⟩ (.int .i64 0)) = WF at hfin K1 ⊢
  refine bodyPost_ret (v := .tuple #[.agg #[.string ⟨#[]⟩, .int .i64 0, .int .i64 0], .bool false, .int .i64 1]) ?_ rfl ⟨rfl, K1⟩
  exact results_ctt (p := 6) (u := 7) (v := 8) (ty := 33) rfl _ _ (w.heap.size + 1) 33 #[.string ⟨#[]⟩, .int .i64 0, .int .i64 0] (0, 0) _ rfl hfin Tryz.underlying33 rfl size33
theorem mayVal_long (d : ByteArray) (hd : 48 < d.size) (w : World) : Calls Tryz.prog 34 #[.agg #[.string d, .int .i64 (-1), .int .i64 0]] w fun e w' => e = .returned (.bool false) ∧ Kept w w' := by
  have K0 : Kept w (w.alloc (.cells #[.string d, .int .i64 (-1), .int .i64 0] 33)) := (Kept.refl w).alloc _
  obtain ⟨x0, x1, x2⟩ := (C3.alloc w 33 (.string d) (.int .i64 (-1)) (.int .i64 0)).cs
  have h1 : ¬ (d.size : Int) ≤ 48 := by omega
  go_enter Tryz.func34, Tryz.ntmps34
  go_wp2
  go_ret
  exact ⟨rfl, K0⟩
theorem mayVal_a (w : World) : Calls Tryz.prog 34 #[.agg #[.string ⟨#[]⟩, .int .i64 3, .int .i64 48]] w fun e w' => e = .returned (.bool false) ∧ Kept w w' := by
  have K0 : Kept w (w.alloc (.cells #[.string ⟨#[]⟩, .int .i64 3, .int .i64 48] 33)) := (Kept.refl w).alloc _
  obtain ⟨x0, x1, x2⟩ := (C3.alloc w 33 (.string ⟨#[]⟩) (.int .i64 3) (.int .i64 48)).cs
  go_enter Tryz.func34, Tryz.ntmps34
  go_wp2
  go_ret
  exact ⟨rfl, K0⟩
theorem mayVal_b (w : World) : Calls Tryz.prog 34 #[.agg #[.string ⟨#[]⟩, .int .i64 16384, .int .i64 100]] w fun e w' => e = .returned (.bool false) ∧ Kept w w' := by
  have K0 : Kept w (w.alloc (.cells #[.string ⟨#[]⟩, .int .i64 16384, .int .i64 100] 33)) := (Kept.refl w).alloc _
  obtain ⟨x0, x1, x2⟩ := (C3.alloc w 33 (.string ⟨#[]⟩) (.int .i64 16384) (.int .i64 100)).cs
  go_enter Tryz.func34, Tryz.ntmps34
  go_wp2
  go_ret
  exact ⟨rfl, K0⟩
theorem mayVal_c (w : World) : Calls Tryz.prog 34 #[.agg #[.string ⟨#[]⟩, .int .i64 3, .int .i64 65537]] w fun e w' => e = .returned (.bool false) ∧ Kept w w' := by
  have K0 : Kept w (w.alloc (.cells #[.string ⟨#[]⟩, .int .i64 3, .int .i64 65537] 33)) := (Kept.refl w).alloc _
  obtain ⟨x0, x1, x2⟩ := (C3.alloc w 33 (.string ⟨#[]⟩) (.int .i64 3) (.int .i64 65537)).cs
  go_enter Tryz.func34, Tryz.ntmps34
  go_wp2
  go_ret
  exact ⟨rfl, K0⟩

theorem info5' : (Tryz.prog.info? 5).map (fun i => (i.zero, i.size, i.bytes)) = some (some (.int .u8 0), 1, 1) := by kernel_rfl
/-- A text of noughts, made. -/
theorem made_text (n : Nat) (hn : n ≤ 1000) (W : World) : ∃ w1, (Instr.makeSlice 55 (.int .i64 (n : Nat)) (.int .i64 (n : Nat))).run Tryz.prog W = .ok (.slice (some ⟨W.heap.size, 0, none⟩) n n) w1 ∧ (convert 55 9 (.slice (some ⟨W.heap.size, 0, none⟩) n n)).run Tryz.prog w1 = .ok (.string (P.bs (List.replicate n 0))) w1 ∧ Kept W w1 := by
  obtain ⟨i, hi, hz, hs, hby⟩ := info_parts info5'
  obtain ⟨w1, mk, ow, gw⟩ := run_makeSlice_full (P := Tryz.prog) W W.heap.size 55 5 i _ 1 Tryz.underlying55 hi hz hs .i64 .i64 n (by omega) (by rw [hby]; omega) (by unfold maxLen; omega) (Nat.le_refl _)
  refine ⟨w1, mk, ?_, ⟨(Below.refl _ W).grown gw (Nat.le_refl _) (fun _ e => by cases e)⟩⟩
  have e : (madeCells #[Value.int .u8 0] (n * 1)).toList = P.cellsOf (List.replicate n 0) := by
    rw [toList_madeCells_one, Nat.mul_one]
    simp [P.cellsOf]
  have ow' : w1.ownsRow W.heap.size 5 1 (.slice (some ⟨W.heap.size, 0, none⟩) n n) n (P.cellsOf (List.replicate n 0)) := by rw [← e]; exact ow
  have e2 : n = (List.replicate n 0).length := by simp
  have := P.own_text (l := List.replicate n 0) (v := .slice (some ⟨W.heap.size, 0, none⟩) n n) (by rw [← e2]; exact ow')
  exact this

set_option maxRecDepth 100000 in
set_option maxHeartbeats 4000000 in
theorem none_law (n : Int) (s : ByteArray) (w : World) (hL : S.Lds w) : Calls Tryz.prog 7 #[.int .i64 n, .string s] w fun e w' => e = .returned (.bool true) ∧ Kept w w' := by
  obtain ⟨T, hT⟩ : ∃ T, P.bs (List.replicate 65 0) = T := ⟨_, rfl⟩
  obtain ⟨U, hU⟩ : ∃ U, P.bs (List.replicate 49 0) = U := ⟨_, rfl⟩
  have hTs : T.size = 65 := by rw [← hT, P.bs_size, List.length_replicate]
  have hUs : U.size = 49 := by rw [← hU, P.bs_size, List.length_replicate]
  have mt : ∀ W : World, ∃ w1, (Instr.makeSlice 55 (.int .i64 65) (.int .i64 65)).run Tryz.prog W = .ok (.slice (some ⟨W.heap.size, 0, none⟩) 65 65) w1 ∧ (convert 55 9 (.slice (some ⟨W.heap.size, 0, none⟩) 65 65)).run Tryz.prog w1 = .ok (.string T) w1 ∧ Kept W w1 := fun W => by
    have := made_text 65 (by decide) W
    rw [hT] at this
    exact this
  have mu : ∀ W : World, ∃ w1, (Instr.makeSlice 55 (.int .i64 49) (.int .i64 49)).run Tryz.prog W = .ok (.slice (some ⟨W.heap.size, 0, none⟩) 49 49) w1 ∧ (convert 55 9 (.slice (some ⟨W.heap.size, 0, none⟩) 49 49)).run Tryz.prog w1 = .ok (.string U) w1 ∧ Kept W w1 := fun W => by
    have := made_text 49 (by decide) W
    rw [hU] at this
    exact this
  have a15 := fun W => put_none s ⟨#[]⟩ (-1) 0 W
  have a11 := fun W => delete_none s W
  have a14 := fun W => get_none s W
  have a21 := fun W => node_nil n W
  have a17 := fun W => root_nil W
  have b8 : ∀ W : World, Calls Tryz.prog 8 #[.int .i64 5] W _ := fun W => begun_walk 5 (by decide) (by decide)
  have b9 := fun (W : World) (h : S.Lds W) => awake_walk h
  have c1 : ∀ (W : World) (t p : Nat), TAt W t p (-1) → Calls Tryz.prog 15 #[.pointer (some ⟨t, 0, none⟩), .string T, .agg #[.string ⟨#[]⟩, .int .i64 (-1), .int .i64 0]] W _ := fun W t p h => put_badkey h T ⟨#[]⟩ (-1) 0 (by omega)
  have c2 : ∀ (W : World) (t p : Nat), TAt W t p (-1) → Calls Tryz.prog 15 #[.pointer (some ⟨t, 0, none⟩), .string ⟨#[97]⟩, .agg #[.string U, .int .i64 (-1), .int .i64 0]] W _ := fun W t p h => put_badval h ⟨#[97]⟩ U (-1) 0 (by decide) (fun W => mayVal_long U (by omega) W)
  have c3 : ∀ (W : World) (t p : Nat), TAt W t p (-1) → Calls Tryz.prog 15 #[.pointer (some ⟨t, 0, none⟩), .string ⟨#[97]⟩, .agg #[.string ⟨#[]⟩, .int .i64 3, .int .i64 48]] W _ := fun W t p h => put_badval h ⟨#[97]⟩ ⟨#[]⟩ 3 48 (by decide) mayVal_a
  have c4 : ∀ (W : World) (t p : Nat), TAt W t p (-1) → Calls Tryz.prog 15 #[.pointer (some ⟨t, 0, none⟩), .string ⟨#[97]⟩, .agg #[.string ⟨#[]⟩, .int .i64 16384, .int .i64 100]] W _ := fun W t p h => put_badval h ⟨#[97]⟩ ⟨#[]⟩ 16384 100 (by decide) mayVal_b
  have c5 : ∀ (W : World) (t p : Nat), TAt W t p (-1) → Calls Tryz.prog 15 #[.pointer (some ⟨t, 0, none⟩), .string ⟨#[97]⟩, .agg #[.string ⟨#[]⟩, .int .i64 3, .int .i64 65537]] W _ := fun W t p h => put_badval h ⟨#[97]⟩ ⟨#[]⟩ 3 65537 (by decide) mayVal_c
  have c6 : ∀ (W : World) (t p : Nat), TAt W t p (-1) → Calls Tryz.prog 17 #[.pointer (some ⟨t, 0, none⟩)] W _ := fun W t p h => root_walk h
  have HL : Hid (S.Lds w) := hL
  clear hT hTs hU hUs hL
  go_enter Tryz.func7, Tryz.ntmps7
  go_wp2_with (first
    | (go_at_call 15; (with_reducible refine (a15 _).mono ?_); rintro e w1 ⟨rfl, k1⟩; have K1 : Kept w (w1.alloc (.cells #[.string ⟨#[]⟩, .int .i64 0, .int .i64 0] 33)) := k1.alloc _; clear a15)
    | (go_at_call 11; (with_reducible refine (a11 _).mono ?_); rintro e w2 ⟨rfl, k2⟩; have K2 : Kept w (w2.alloc (.cells #[.string ⟨#[]⟩, .int .i64 0, .int .i64 0] 33)) := (K1.trans k2).alloc _; clear a11)
    | (go_at_call 14; (with_reducible refine (a14 _).mono ?_); rintro e w3 ⟨rfl, k3⟩; have K3 : Kept w (w3.alloc (.cells #[.string ⟨#[]⟩, .int .i64 0, .int .i64 0] 33)) := (K2.trans k3).alloc _; clear a14)
    | (go_at_call 21; (with_reducible refine (a21 _).mono ?_); rintro e w4 ⟨rfl, k4⟩; have K4 : Kept w (w4.alloc (.cells #[.bool false, .slice none 0 0, .slice none 0 0, .slice none 0 0] 52)) := (K3.trans k4).alloc _; have h8 := b8 (w4.alloc (.cells #[.bool false, .slice none 0 0, .slice none 0 0, .slice none 0 0] 52)); clear a21 b8)
    | (go_at_call 8; (with_reducible refine h8.mono ?_); rintro e w5 ⟨t, p, rfl, T5, _, _, k5⟩; have K5 := K4.trans k5; have h9 := b9 _ (lds_kept HL.out K5); clear h8 b9)
    | (go_at_call 9; (with_reducible refine h9.mono ?_); rintro e w6 ⟨rfl, k6⟩; have K6 := K5.trans k6; obtain ⟨w7, mk7, cv7, k7⟩ := mt w6; have K7 := K6.trans k7; have T7 := (T5.kept k6).kept k7; have d1 := c1 w7 t p T7; clear h9 mt c1)
    | (go_at_call 15; (with_reducible refine d1.mono ?_); rintro e w8 ⟨rfl, k8⟩; have ka8 := k8.alloc (.cells #[.string ⟨#[]⟩, .int .i64 0, .int .i64 0] 33); have K8 := K7.trans ka8; have T8 := T7.kept ka8; obtain ⟨w9, mk9, cv9, k9⟩ := mu (w8.alloc (.cells #[.string ⟨#[]⟩, .int .i64 0, .int .i64 0] 33)); rw [N.size_alloc] at mk9 cv9; have K9 := K8.trans k9; have T9 := T8.kept k9; have d2 := c2 w9 t p T9; clear d1 mu c2)
    | (go_at_call 15; (with_reducible refine d2.mono ?_); rintro e wA ⟨rfl, kA⟩; have kaA := kA.alloc (.cells #[.string ⟨#[]⟩, .int .i64 0, .int .i64 0] 33); have KA := K9.trans kaA; have TA := T9.kept kaA; have d3 := c3 _ t p TA; clear d2 c3)
    | (go_at_call 15; (with_reducible refine d3.mono ?_); rintro e wB ⟨rfl, kB⟩; have kaB := kB.alloc (.cells #[.string ⟨#[]⟩, .int .i64 0, .int .i64 0] 33); have KB := KA.trans kaB; have TB := TA.kept kaB; have d4 := c4 _ t p TB; clear d3 c4)
    | (go_at_call 15; (with_reducible refine d4.mono ?_); rintro e wC ⟨rfl, kC⟩; have kaC := kC.alloc (.cells #[.string ⟨#[]⟩, .int .i64 0, .int .i64 0] 33); have KC := KB.trans kaC; have TC := TB.kept kaC; have d5 := c5 _ t p TC; clear d4 c5)
    | (go_at_call 15; (with_reducible refine d5.mono ?_); rintro e wD ⟨rfl, kD⟩; have kaD := kD.alloc (.cells #[.string ⟨#[]⟩, .int .i64 0, .int .i64 0] 33); have KD := KC.trans kaD; have TD := TC.kept kaD; have d6 := c6 _ t p TD; clear d5 c6)
    | (go_at_call 17; (with_reducible refine (a17 _).mono ?_); rintro e wE ⟨rfl, hwE⟩; rw [hwE]; clear hwE a17)
    | (go_at_call 17; (with_reducible refine d6.mono ?_); rintro e wF ⟨rfl, hwF⟩; rw [hwF]; clear hwF))
  go_ret
  exact ⟨rfl, KD⟩
end Go.Proofs.YtncfpjccfmolgaaGreatDoor.T
