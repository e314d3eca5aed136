/- The walk of node.Unset: of a key that was not there, and of one that was. Conditions: 99999 keys at most, as many values. -/
import Derived.Test.YtgcfollelefmcaaNG
namespace Go.Proofs.Ytgcfollelefmcaa
open Go.ChangeShapes Go.WideShapes Go.ChangeAt Go.RowKit

theorem del_kcl (ks : List ByteArray) (i : Nat) : (kcl ks).take (i * 1) ++ (kcl ks).drop ((i + 1) * 1) = kcl (del ks i) := by
  simp [kcl, del]
theorem del_vcl (vs : List Vl) (i : Nat) : (vcl vs).take (i * 3) ++ (vcl vs).drop ((i + 1) * 3) = vcl (del vs i) := by
  rw [vcl_take, vcl_drop, del, vcl_append]

set_option maxHeartbeats 4000000 in
set_option maxRecDepth 100000 in
theorem unset_no {w : World} {l : Bool} {kp vp ip : Option Addr} {n kc vc ni ic : Nat} {ks : List ByteArray} {vs : List Vl} (hk : Rw w 1 kp n kc (kcl ks)) (hv : Rw w 3 vp n vc (vcl vs)) (hn : n ≤ 99999) (key : ByteArray) (hs : isk key ks = false) :
    Calls Try.prog 21 #[.agg #[.bool l, .slice kp n kc, .slice vp n vc, .slice ip ni ic], .string key] w fun e w' => ∃ kp' kc' vp' vc', e = .returned (.tuple #[.agg #[.bool true, .slice kp' n kc', .slice vp' n vc', .slice none 0 0], .agg #[.string ⟨#[]⟩, .int .i64 (-1), .int .i64 0], .bool false]) ∧ Own w' w.heap.size 9 1 kp' n kc' (kcl ks) ∧ Own w' w.heap.size 49 3 vp' n vc' (vcl vs) ∧ Kept w w' := by
  have HL : Hid (∀ W, Kept w W → Calls Try.prog 44 #[.agg #[.bool l, .slice kp n kc, .slice vp n vc, .slice ip ni ic]] W fun e w' => ∃ kp' kc' vp', e = .returned (.agg #[.bool true, .slice kp' n kc', .slice vp' n n, .slice none 0 0]) ∧ Own w' W.heap.size 9 1 kp' n kc' (kcl ks) ∧ Own w' W.heap.size 49 3 vp' n n (vcl vs) ∧ Kept W w') := fun W hW => leafOf_walk (hW.rw hk) (hW.rw hv) (kcl_one _) (vcl_one _) (by omega)
  have HF : Hid (∀ (W : World) (p : Option Addr) (c : Nat), Rw W 1 p n c (kcl ks) → Calls Try.prog 19 #[.slice p n c, .string key] W fun e w' => e = .returned (.tuple #[.int .i64 (fnd key ks : Nat), .bool false]) ∧ w' = W) := fun W p c h => by have := find_walk h (by omega) key; rwa [hs] at this
  generalize hI : fnd key ks = i at *
  obtain ⟨oA, hoA⟩ : ∃ o : Obj, o = .cells #[.bool l, .slice kp n kc, .slice vp n vc, .slice ip ni ic] 27 := ⟨_, rfl⟩
  obtain ⟨oC, hoC⟩ : ∃ o : Obj, o = .cells #[.bool false, .slice none 0 0, .slice none 0 0, .slice none 0 0] 27 := ⟨_, rfl⟩
  obtain ⟨oD, hoD⟩ : ∃ o : Obj, o = .cells #[.string ⟨#[]⟩, .int .i64 0, .int .i64 0] 49 := ⟨_, rfl⟩
  have K0 : Kept w (((w.alloc oA).alloc oC).alloc oD) := (((Kept.refl w).alloc _).alloc _).alloc _
  have S0 : (((w.alloc oA).alloc oC).alloc oD).heap.size = w.heap.size + 3 := by rw [size_alloc, size_alloc, size_alloc]
  have R0 : C4 (((w.alloc oA).alloc oC).alloc oD) (w.heap.size + 1) 27 (.bool false) (.slice none 0 0) (.slice none 0 0) (.slice none 0 0) := by
    subst hoC; rw [show w.heap.size + 1 = (w.alloc oA).heap.size by rw [size_alloc]]; exact (C4.alloc _ 27 _ _ _ _).kept ((Kept.refl _).alloc _)
  have Q0 : C3 (((w.alloc oA).alloc oC).alloc oD) (w.heap.size + 1 + 1) 49 (.string ⟨#[]⟩) (.int .i64 0) (.int .i64 0) := by
    subst hoD; rw [show w.heap.size + 1 + 1 = ((w.alloc oA).alloc oC).heap.size by rw [size_alloc, size_alloc]]; exact C3.alloc _ 49 _ _ _
  subst hoA; subst hoC; subst hoD
  clear hk hv
  go_enter Try.func21, Try.ntmps21
  go_wp2_with (first
    | (go_at_call 44
       (with_reducible refine (HL.out _ K0).mono ?_)
       rintro e v1 ⟨kp1, kc1, vp1, rfl, O1, O2, k1⟩
       rw [S0] at O1 O2
       have S1 := k1.size
       rw [S0] at S1
       have s1 : SS w v1 (w.heap.size + 3) (w.heap.size + 1) (w.heap.size + 1 + 1) v1.heap.size kp1 n kc1 (kcl ks) vp1 n n (vcl vs) := ⟨K0.trans k1, R0.kept k1, Q0.kept k1, O1, O2, by omega, by omega, by omega, S1, by omega, by omega⟩
       clear R0 Q0 K0 HL S0 k1 O1 O2
       have x1 := C4.alloc v1 27 (.bool true) (.slice kp1 n kc1) (.slice vp1 n n) (.slice none 0 0)
       have k2 := (Kept.refl v1).alloc (.cells #[.bool true, .slice kp1 n kc1, .slice vp1 n n, .slice none 0 0] 27)
       have s2 := s1.kept k2
       have z2 := size_alloc v1 (.cells #[.bool true, .slice kp1 n kc1, .slice vp1 n n, .slice none 0 0] 27)
       clear k2 s1)
    | (go_at_call 19
       (with_reducible refine (HF.out _ _ _ s2.OK.rw).mono ?_)
       rintro e v2 ⟨rfl, hv2⟩
       rw [hv2]
       clear hv2 HF))
  generalize hW8 : v1.alloc (.cells #[.bool true, .slice kp1 n kc1, .slice vp1 n n, .slice none 0 0] 27) = W8 at *
  clear hW8
  have x8 := x1.drew
  have s8 := s2.kept (Kept.refl W8).drew
  obtain ⟨c0, c1, c2, c3⟩ := x8.cs
  go_region_with (first
    | (go_at_call 47
       (with_reducible refine (nothing_walk _).mono ?_)
       rintro e v9 ⟨rfl, k9⟩
       have x9 := x8.kept k9
       have s9 := s8.kept k9
       clear x8 s8
       obtain ⟨d0, d1, d2, d3⟩ := x9.cs
       obtain ⟨⟨g0, f0⟩, ⟨g1, f1⟩, ⟨g2, f2⟩, ⟨g3, f3⟩, hR⟩ := ready4 s9.R.out (.bool true) (.slice kp1 n kc1) (.slice vp1 n n) (.slice none 0 0)
       have hQ0 : ((((v9.setCell ⟨(w.heap.size + 1), 0, none⟩ (.bool true)).setCell ⟨(w.heap.size + 1), 1, none⟩ (.slice kp1 n kc1)).setCell ⟨(w.heap.size + 1), 2, none⟩ (.slice vp1 n n)).setCell ⟨(w.heap.size + 1), 3, none⟩ (.slice none 0 0)).heap[w.heap.size + 1 + 1]? = _ := (others4 v9 (by omega) _ _ _ _).trans s9.Q.out
       obtain ⟨⟨q0, y0⟩, ⟨q1, y1⟩, ⟨q2, y2⟩, hQ⟩ := ready3 hQ0 (.string ⟨#[]⟩) (.int .i64 (-1)) (.int .i64 0)))
  all_goals
    obtain ⟨F1, F2, F3, F4, F5⟩ := s9.done (by omega) (.bool true) (.slice kp1 n kc1) (.slice vp1 n n) (.slice none 0 0) (.string ⟨#[]⟩) (.int .i64 (-1)) (.int .i64 0)
    generalize hWF : (((((((v9.setCell ⟨(w.heap.size + 1), 0, none⟩ (.bool true)).setCell ⟨(w.heap.size + 1), 1, none⟩ (.slice kp1 n kc1)).setCell ⟨(w.heap.size + 1), 2, none⟩ (.slice vp1 n n)).setCell ⟨(w.heap.size + 1), 3, none⟩ (.slice none 0 0)).setCell ⟨(w.heap.size + 1 + 1), 0, none⟩ (.string ⟨#[]⟩)).setCell ⟨(w.heap.size + 1 + 1), 1, none⟩ (.int .i64 (-1))).setCell ⟨(w.heap.size + 1 + 1), 2, none⟩ (.int .i64 0)) = WF at F1 F2 F3 F4 F5 ⊢
    clear hWF x9 s9 g0 f0 g1 f1 g2 f2 g3 f3 hR hQ0 q0 y0 q1 y1 q2 y2 hQ
    go_wp2
    refine bodyPost_ret (v := .tuple #[.agg #[.bool true, .slice kp1 n kc1, .slice vp1 n n, .slice none 0 0], .agg #[.string ⟨#[]⟩, .int .i64 (-1), .int .i64 0], .bool false]) ?_ rfl ⟨_, _, _, _, rfl, F3.mono (by omega), F4.mono (by omega), F5⟩
    exact results_three (p := 4) (q := 5) (u := 6) (ty := 27) (tz := 49) rfl _ _ (w.heap.size + 1) (w.heap.size + 1 + 1) 27 49 #[.bool true, .slice kp1 n kc1, .slice vp1 n n, .slice none 0 0] #[.string ⟨#[]⟩, .int .i64 (-1), .int .i64 0] (0, 0) (0, 0) _ _ rfl F1 Try.underlying27 rfl size27 rfl F2 Try.underlying49 rfl size49

set_option maxHeartbeats 4000000 in
set_option maxRecDepth 100000 in
theorem unset_yes {w : World} {l : Bool} {kp vp ip : Option Addr} {n kc vc ni ic : Nat} {ks : List ByteArray} {vs : List Vl} (hk : Rw w 1 kp n kc (kcl ks)) (hv : Rw w 3 vp n vc (vcl vs)) (hn : n ≤ 99999) (key : ByteArray) (hs : isk key ks = true) :
    Calls Try.prog 21 #[.agg #[.bool l, .slice kp n kc, .slice vp n vc, .slice ip ni ic], .string key] w fun e w' => ∃ kp' kc' vp' vc' o, vs[fnd key ks]? = some o ∧ e = .returned (.tuple #[.agg #[.bool true, .slice kp' (n - 1) kc', .slice vp' (n - 1) vc', .slice none 0 0], .agg #[.string o.d, .int .i64 o.p, .int .i64 o.l], .bool true]) ∧ Own w' w.heap.size 9 1 kp' (n - 1) kc' (kcl (del ks (fnd key ks))) ∧ Own w' w.heap.size 49 3 vp' (n - 1) vc' (vcl (del vs (fnd key ks))) ∧ Kept w w' := by
  have hkl : ks.length = n := by have := hk.len; rw [kcl_length, Nat.mul_one] at this; exact this
  have hvl : vs.length = n := by have := hv.len; rw [vcl_length] at this; omega
  have HL : Hid (∀ W, Kept w W → Calls Try.prog 44 #[.agg #[.bool l, .slice kp n kc, .slice vp n vc, .slice ip ni ic]] W fun e w' => ∃ kp' kc' vp', e = .returned (.agg #[.bool true, .slice kp' n kc', .slice vp' n n, .slice none 0 0]) ∧ Own w' W.heap.size 9 1 kp' n kc' (kcl ks) ∧ Own w' W.heap.size 49 3 vp' n n (vcl vs) ∧ Kept W w') := fun W hW => leafOf_walk (hW.rw hk) (hW.rw hv) (kcl_one _) (vcl_one _) (by omega)
  have hi : fnd key ks < n := by rw [← hkl]; exact isk_lt hs
  have HF : Hid (∀ (W : World) (p : Option Addr) (c : Nat), Rw W 1 p n c (kcl ks) → Calls Try.prog 19 #[.slice p n c, .string key] W fun e w' => e = .returned (.tuple #[.int .i64 (fnd key ks : Nat), .bool true]) ∧ w' = W) := fun W p c h => by have := find_walk h (by omega) key; rwa [hs] at this
  generalize hI : fnd key ks = i at *
  obtain ⟨o, ho⟩ : ∃ o, vs[i]? = some o := ⟨_, List.getElem?_eq_getElem (by omega)⟩
  have HD1 : Hid (∀ (W : World) (B g c : Nat), Own W B 9 1 (some ⟨g, 0, none⟩) n c (kcl ks) → Calls Try.prog 48 #[.slice (some ⟨g, 0, none⟩) n c, .int .i64 (i : Nat), .int .i64 ((i : Int) + 1)] W fun e w' => e = .returned (.slice (some ⟨g, 0, none⟩) (n - 1) c) ∧ Own w' B 9 1 (some ⟨g, 0, none⟩) (n - 1) c (kcl (del ks i)) ∧ W.grownBy w' (some g)) := fun W B g c h => by
    have a := delete48 h i hi (by omega) (kcl_one _)
    rw [del_kcl, Int.natCast_add] at a
    exact a
  have HD2 : Hid (∀ (W : World) (B g c : Nat), Own W B 49 3 (some ⟨g, 0, none⟩) n c (vcl vs) → Calls Try.prog 49 #[.slice (some ⟨g, 0, none⟩) n c, .int .i64 (i : Nat), .int .i64 ((i : Int) + 1)] W fun e w' => e = .returned (.slice (some ⟨g, 0, none⟩) (n - 1) c) ∧ Own w' B 49 3 (some ⟨g, 0, none⟩) (n - 1) c (vcl (del vs i)) ∧ W.grownBy w' (some g)) := fun W B g c h => by
    have a := delete49 h i hi (by omega) (vcl_one _)
    rw [del_vcl, Int.natCast_add] at a
    exact a
  obtain ⟨oA, hoA⟩ : ∃ o : Obj, o = .cells #[.bool l, .slice kp n kc, .slice vp n vc, .slice ip ni ic] 27 := ⟨_, rfl⟩
  obtain ⟨oC, hoC⟩ : ∃ o : Obj, o = .cells #[.bool false, .slice none 0 0, .slice none 0 0, .slice none 0 0] 27 := ⟨_, rfl⟩
  obtain ⟨oD, hoD⟩ : ∃ o : Obj, o = .cells #[.string ⟨#[]⟩, .int .i64 0, .int .i64 0] 49 := ⟨_, rfl⟩
  have K0 : Kept w (((w.alloc oA).alloc oC).alloc oD) := (((Kept.refl w).alloc _).alloc _).alloc _
  have S0 : (((w.alloc oA).alloc oC).alloc oD).heap.size = w.heap.size + 3 := by rw [size_alloc, size_alloc, size_alloc]
  have R0 : C4 (((w.alloc oA).alloc oC).alloc oD) (w.heap.size + 1) 27 (.bool false) (.slice none 0 0) (.slice none 0 0) (.slice none 0 0) := by
    subst hoC; rw [show w.heap.size + 1 = (w.alloc oA).heap.size by rw [size_alloc]]; exact (C4.alloc _ 27 _ _ _ _).kept ((Kept.refl _).alloc _)
  have Q0 : C3 (((w.alloc oA).alloc oC).alloc oD) (w.heap.size + 1 + 1) 49 (.string ⟨#[]⟩) (.int .i64 0) (.int .i64 0) := by
    subst hoD; rw [show w.heap.size + 1 + 1 = ((w.alloc oA).alloc oC).heap.size by rw [size_alloc, size_alloc]]; exact C3.alloc _ 49 _ _ _
  subst hoA; subst hoC; subst hoD
  clear hk hv
  go_enter Try.func21, Try.ntmps21
  go_wp2_with (first
    | (go_at_call 44
       (with_reducible refine (HL.out _ K0).mono ?_)
       rintro e v1 ⟨kp1, kc1, vp1, rfl, O1, O2, k1⟩
       rw [S0] at O1 O2
       have S1 := k1.size
       rw [S0] at S1
       have s1 : SS w v1 (w.heap.size + 3) (w.heap.size + 1) (w.heap.size + 1 + 1) v1.heap.size kp1 n kc1 (kcl ks) vp1 n n (vcl vs) := ⟨K0.trans k1, R0.kept k1, Q0.kept k1, O1, O2, by omega, by omega, by omega, S1, by omega, by omega⟩
       clear R0 Q0 K0 HL S0 k1 O1 O2
       have x1 := C4.alloc v1 27 (.bool true) (.slice kp1 n kc1) (.slice vp1 n n) (.slice none 0 0)
       have k2 := (Kept.refl v1).alloc (.cells #[.bool true, .slice kp1 n kc1, .slice vp1 n n, .slice none 0 0] 27)
       have s2 := s1.kept k2
       have z2 := size_alloc v1 (.cells #[.bool true, .slice kp1 n kc1, .slice vp1 n n, .slice none 0 0] 27)
       clear k2 s1)
    | (go_at_call 19
       (with_reducible refine (HF.out _ _ _ s2.OK.rw).mono ?_)
       rintro e v2 ⟨rfl, hv2⟩
       rw [hv2]
       clear hv2 HF
       obtain ⟨gV, rfl⟩ := s2.OV.some_of (by omega)
       obtain ⟨gK, rfl⟩ := s2.OK.some_of (by omega)
       obtain ⟨t0, t1, t2⟩ := s2.OV.val ho
       have hgl : gV < v1.heap.size + 1 := by have := (s2.OV.out.lt gV rfl).2; rwa [z2] at this
       have hgl2 : gK < v1.heap.size + 1 := by have := (s2.OK.out.lt gK rfl).2; rwa [z2] at this
       have k3 := (Kept.refl (v1.alloc (.cells #[.bool true, .slice (some ⟨gK, 0, none⟩) n kc1, .slice (some ⟨gV, 0, none⟩) n n, .slice none 0 0] 27))).alloc (.cells #[.string o.d, .int .i64 o.p, .int .i64 o.l] 49)
       have y3 := C3.alloc (v1.alloc (.cells #[.bool true, .slice (some ⟨gK, 0, none⟩) n kc1, .slice (some ⟨gV, 0, none⟩) n n, .slice none 0 0] 27)) 49 (.string o.d) (.int .i64 o.p) (.int .i64 o.l)
       have s3 := s2.kept k3
       have x3 := x1.kept k3
       rw [z2] at y3
       have d1 := x3.cs.2.1
       clear k3)
    | (go_at_call 48
       (with_reducible refine (HD1.out _ _ _ _ s3.OK).mono ?_)
       rintro e v4 ⟨rfl, o4, g4⟩
       have x4 := x3.grown g4 (x3.own_ne s3.OK (by decide))
       have y4 := y3.grown g4 (by intro he; injection he with he; omega)
       have s4 := s3.keys g4 o4
       clear s3 x3 y3 g4 o4 s2 x1
       have c4 := x4.cs.2.1
       have f4 := x4.fz 1
       have s5 := s4.store x4 1 (.slice (some ⟨gK, 0, none⟩) (n - 1) kc1)
       have x5 := x4.set1 (.slice (some ⟨gK, 0, none⟩) (n - 1) kc1)
       have y5 := y4.far ⟨v1.heap.size, 1, none⟩ (.slice (some ⟨gK, 0, none⟩) (n - 1) kc1) (by show v1.heap.size + 1 ≠ v1.heap.size; omega)
       have e2 := x5.cs.2.2.1
       clear s4 y4)
    | (go_at_call 49
       (with_reducible refine (HD2.out _ _ _ _ s5.OV).mono ?_)
       rintro e v6 ⟨rfl, o6, g6⟩
       have x6 := x5.grown g6 (x5.own_ne s5.OV (by decide))
       have y6 := y5.grown g6 (by intro he; injection he with he; omega)
       have s6 := s5.valsG g6 o6
       clear s5 x5 y5 g6 o6 x4
       have c6 := x6.cs.2.2.1
       have f6 := x6.fz 2
       have s7 := s6.store x6 2 (.slice (some ⟨gV, 0, none⟩) (n - 1) n)
       have x7 := x6.set2 (.slice (some ⟨gV, 0, none⟩) (n - 1) n)
       have y7 := y6.far ⟨v1.heap.size, 2, none⟩ (.slice (some ⟨gV, 0, none⟩) (n - 1) n) (by show v1.heap.size + 1 ≠ v1.heap.size; omega)
       clear s6 y6))
  generalize hW4 : v6.setCell ⟨v1.heap.size, 2, none⟩ (.slice (some ⟨gV, 0, none⟩) (n - 1) n) = W4 at s7 x7 y7 ⊢
  clear hW4 c4 f4 e2 c6 f6 x6 t0 t1 t2 d1
  obtain ⟨c0, c1, c2, c3⟩ := x7.cs
  obtain ⟨d0, d1, d2⟩ := y7.cs
  obtain ⟨⟨g0, f0⟩, ⟨g1, f1⟩, ⟨g2, f2⟩, ⟨g3, f3⟩, hR⟩ := ready4 s7.R.out (.bool true) (.slice (some ⟨gK, 0, none⟩) (n - 1) kc1) (.slice (some ⟨gV, 0, none⟩) (n - 1) n) (.slice none 0 0)
  have hQ0 : ((((W4.setCell ⟨(w.heap.size + 1), 0, none⟩ (.bool true)).setCell ⟨(w.heap.size + 1), 1, none⟩ (.slice (some ⟨gK, 0, none⟩) (n - 1) kc1)).setCell ⟨(w.heap.size + 1), 2, none⟩ (.slice (some ⟨gV, 0, none⟩) (n - 1) n)).setCell ⟨(w.heap.size + 1), 3, none⟩ (.slice none 0 0)).heap[w.heap.size + 1 + 1]? = _ := (others4 W4 (by omega) _ _ _ _).trans s7.Q.out
  obtain ⟨⟨q0, y0⟩, ⟨q1, y1⟩, ⟨q2, y2⟩, hQ⟩ := ready3 hQ0 (.string o.d) (.int .i64 o.p) (.int .i64 o.l)
  go_region
  all_goals
    obtain ⟨F1, F2, F3, F4, F5⟩ := s7.done (by omega) (.bool true) (.slice (some ⟨gK, 0, none⟩) (n - 1) kc1) (.slice (some ⟨gV, 0, none⟩) (n - 1) n) (.slice none 0 0) (.string o.d) (.int .i64 o.p) (.int .i64 o.l)
    generalize hWF : (((((((W4.setCell ⟨(w.heap.size + 1), 0, none⟩ (.bool true)).setCell ⟨(w.heap.size + 1), 1, none⟩ (.slice (some ⟨gK, 0, none⟩) (n - 1) kc1)).setCell ⟨(w.heap.size + 1), 2, none⟩ (.slice (some ⟨gV, 0, none⟩) (n - 1) n)).setCell ⟨(w.heap.size + 1), 3, none⟩ (.slice none 0 0)).setCell ⟨(w.heap.size + 1 + 1), 0, none⟩ (.string o.d)).setCell ⟨(w.heap.size + 1 + 1), 1, none⟩ (.int .i64 o.p)).setCell ⟨(w.heap.size + 1 + 1), 2, none⟩ (.int .i64 o.l)) = WF at F1 F2 F3 F4 F5 ⊢
    clear hWF x7 s7 y7 g0 f0 g1 f1 g2 f2 g3 f3 hR hQ0 q0 y0 q1 y1 q2 y2 hQ c0 c1 c2 c3 d0 d1 d2
    go_wp2
    refine bodyPost_ret (v := .tuple #[.agg #[.bool true, .slice (some ⟨gK, 0, none⟩) (n - 1) kc1, .slice (some ⟨gV, 0, none⟩) (n - 1) n, .slice none 0 0], .agg #[.string o.d, .int .i64 o.p, .int .i64 o.l], .bool true]) ?_ rfl ⟨_, _, _, _, o, ho, rfl, (F3.kept (Kept.refl WF).drew).mono (by omega), (F4.kept (Kept.refl WF).drew).mono (by omega), F5.drew⟩
    exact results_three (p := 4) (q := 5) (u := 6) (ty := 27) (tz := 49) rfl _ _ (w.heap.size + 1) (w.heap.size + 1 + 1) 27 49 #[.bool true, .slice (some ⟨gK, 0, none⟩) (n - 1) kc1, .slice (some ⟨gV, 0, none⟩) (n - 1) n, .slice none 0 0] #[.string o.d, .int .i64 o.p, .int .i64 o.l] (0, 0) (0, 0) _ _ rfl F1 Try.underlying27 rfl size27 rfl F2 Try.underlying49 rfl size49

/-- What a key had. -/
def oldV (ks : List ByteArray) (vs : List Vl) (key : ByteArray) : Vl := if isk key ks = true then (vs[fnd key ks]?).getD ⟨⟨#[]⟩, -1, 0⟩ else ⟨⟨#[]⟩, -1, 0⟩

theorem set_walk {w : World} {l : Bool} {kp vp ip : Option Addr} {n kc vc ni ic : Nat} {ks : List ByteArray} {vs : List Vl} (hk : Rw w 1 kp n kc (kcl ks)) (hv : Rw w 3 vp n vc (vcl vs)) (hn : n ≤ 99999) (key : ByteArray) (v : Vl) :
    Calls Try.prog 20 #[.agg #[.bool l, .slice kp n kc, .slice vp n vc, .slice ip ni ic], .string key, .agg #[.string v.d, .int .i64 v.p, .int .i64 v.l]] w fun e w' => ∃ kp' m kc' vp' vc', e = .returned (.tuple #[.agg #[.bool true, .slice kp' m kc', .slice vp' m vc', .slice none 0 0], .agg #[.string (oldV ks vs key).d, .int .i64 (oldV ks vs key).p, .int .i64 (oldV ks vs key).l], .bool (isk key ks)]) ∧ Own w' w.heap.size 9 1 kp' m kc' (kcl (setK ks key)) ∧ Own w' w.heap.size 49 3 vp' m vc' (vcl (setV ks vs key v)) ∧ Kept w w' := by
  by_cases hs : isk key ks = true
  · refine (set_old hk hv hn key v hs).mono ?_
    rintro e w' ⟨kp', kc', vp', vc', o, ho, rfl, h1, h2, h3⟩
    have e1 : oldV ks vs key = o := by unfold oldV; rw [if_pos hs, ho]; rfl
    have e2 : setK ks key = ks := by unfold setK; rw [if_pos hs]
    have e3 : setV ks vs key v = vs.set (fnd key ks) v := by unfold setV; rw [if_pos hs]
    rw [e1, e2, e3, hs]
    exact ⟨_, _, _, _, _, rfl, h1, h2, h3⟩
  · have hs' : isk key ks = false := by simpa using hs
    refine (set_new hk hv hn key v hs').mono ?_
    rintro e w' ⟨kp', kc', vp', vc', rfl, h1, h2, h3⟩
    have e1 : oldV ks vs key = ⟨⟨#[]⟩, -1, 0⟩ := by unfold oldV; rw [if_neg hs]
    have e2 : setK ks key = ins ks (fnd key ks) key := by unfold setK; rw [if_neg hs]
    have e3 : setV ks vs key v = ins vs (fnd key ks) v := by unfold setV; rw [if_neg hs]
    rw [e1, e2, e3, hs']
    exact ⟨_, _, _, _, _, rfl, h1, h2, h3⟩

def delK (ks : List ByteArray) (key : ByteArray) : List ByteArray := if isk key ks = true then del ks (fnd key ks) else ks
def delV (ks : List ByteArray) (vs : List Vl) (key : ByteArray) : List Vl := if isk key ks = true then del vs (fnd key ks) else vs

theorem unset_walk {w : World} {l : Bool} {kp vp ip : Option Addr} {n kc vc ni ic : Nat} {ks : List ByteArray} {vs : List Vl} (hk : Rw w 1 kp n kc (kcl ks)) (hv : Rw w 3 vp n vc (vcl vs)) (hn : n ≤ 99999) (key : ByteArray) :
    Calls Try.prog 21 #[.agg #[.bool l, .slice kp n kc, .slice vp n vc, .slice ip ni ic], .string key] w fun e w' => ∃ kp' m kc' vp' vc', e = .returned (.tuple #[.agg #[.bool true, .slice kp' m kc', .slice vp' m vc', .slice none 0 0], .agg #[.string (oldV ks vs key).d, .int .i64 (oldV ks vs key).p, .int .i64 (oldV ks vs key).l], .bool (isk key ks)]) ∧ Own w' w.heap.size 9 1 kp' m kc' (kcl (delK ks key)) ∧ Own w' w.heap.size 49 3 vp' m vc' (vcl (delV ks vs key)) ∧ Kept w w' := by
  by_cases hs : isk key ks = true
  · refine (unset_yes hk hv hn key hs).mono ?_
    rintro e w' ⟨kp', kc', vp', vc', o, ho, rfl, h1, h2, h3⟩
    have e1 : oldV ks vs key = o := by unfold oldV; rw [if_pos hs, ho]; rfl
    have e2 : delK ks key = del ks (fnd key ks) := by unfold delK; rw [if_pos hs]
    have e3 : delV ks vs key = del vs (fnd key ks) := by unfold delV; rw [if_pos hs]
    rw [e1, e2, e3, hs]
    exact ⟨_, _, _, _, _, rfl, h1, h2, h3⟩
  · have hs' : isk key ks = false := by simpa using hs
    refine (unset_no hk hv hn key hs').mono ?_
    rintro e w' ⟨kp', kc', vp', vc', rfl, h1, h2, h3⟩
    have e1 : oldV ks vs key = ⟨⟨#[]⟩, -1, 0⟩ := by unfold oldV; rw [if_neg hs]
    have e2 : delK ks key = ks := by unfold delK; rw [if_neg hs]
    have e3 : delV ks vs key = vs := by unfold delV; rw [if_neg hs]
    rw [e1, e2, e3, hs']
    exact ⟨_, _, _, _, _, rfl, h1, h2, h3⟩
end Go.Proofs.Ytgcfollelefmcaa
