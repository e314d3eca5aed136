/- The walk of node.Set of a key that was not there. Conditions: 99999 keys at most, as many values. -/
import Derived.Test.YtgcfollelefmcaaNE
namespace Go.Proofs.Ytgcfollelefmcaa
open Go.ChangeShapes Go.WideShapes Go.ChangeAt Go.RowKit

theorem C4.set1 {w : World} {b : Nat} {t : TypeId} {a0 a1 a2 a3 : Value} (k : C4 w b t a0 a1 a2 a3) (v : Value) : C4 (w.setCell ⟨b, 1, none⟩ v) b t a0 v a2 a3 := ⟨by rw [heap_setCell_same w b 1 _ _ _ k.out]; rfl⟩
theorem C4.set2 {w : World} {b : Nat} {t : TypeId} {a0 a1 a2 a3 : Value} (k : C4 w b t a0 a1 a2 a3) (v : Value) : C4 (w.setCell ⟨b, 2, none⟩ v) b t a0 a1 v a3 := ⟨by rw [heap_setCell_same w b 2 _ _ _ k.out]; rfl⟩
theorem C4.set3 {w : World} {b : Nat} {t : TypeId} {a0 a1 a2 a3 : Value} (k : C4 w b t a0 a1 a2 a3) (v : Value) : C4 (w.setCell ⟨b, 3, none⟩ v) b t a0 a1 a2 v := ⟨by rw [heap_setCell_same w b 3 _ _ _ k.out]; rfl⟩
theorem size_set (w : World) (a : Addr) (v : Value) : (w.setCell a v).heap.size = w.heap.size := by simp [World.setCell]

/-- Both results are stored. -/
theorem SS.done {w W : World} {B0 r q b9 : Nat} {kp : Option Addr} {n kc : Nat} {KC : List Value} {vp : Option Addr} {m vc : Nat} {VC : List Value} (s : SS w W B0 r q b9 kp n kc KC vp m vc VC) (hrq : r ≠ q) (a0 a1 a2 a3 v0 v1 v2 : Value) :
    (((((((W.setCell ⟨r, 0, none⟩ a0).setCell ⟨r, 1, none⟩ a1).setCell ⟨r, 2, none⟩ a2).setCell ⟨r, 3, none⟩ a3).setCell ⟨q, 0, none⟩ v0).setCell ⟨q, 1, none⟩ v1).setCell ⟨q, 2, none⟩ v2).heap[r]? = some (.cells #[a0, a1, a2, a3] 27) ∧ (((((((W.setCell ⟨r, 0, none⟩ a0).setCell ⟨r, 1, none⟩ a1).setCell ⟨r, 2, none⟩ a2).setCell ⟨r, 3, none⟩ a3).setCell ⟨q, 0, none⟩ v0).setCell ⟨q, 1, none⟩ v1).setCell ⟨q, 2, none⟩ v2).heap[q]? = some (.cells #[v0, v1, v2] 49) ∧
    Own (((((((W.setCell ⟨r, 0, none⟩ a0).setCell ⟨r, 1, none⟩ a1).setCell ⟨r, 2, none⟩ a2).setCell ⟨r, 3, none⟩ a3).setCell ⟨q, 0, none⟩ v0).setCell ⟨q, 1, none⟩ v1).setCell ⟨q, 2, none⟩ v2) B0 9 1 kp n kc KC ∧ Own (((((((W.setCell ⟨r, 0, none⟩ a0).setCell ⟨r, 1, none⟩ a1).setCell ⟨r, 2, none⟩ a2).setCell ⟨r, 3, none⟩ a3).setCell ⟨q, 0, none⟩ v0).setCell ⟨q, 1, none⟩ v1).setCell ⟨q, 2, none⟩ v2) B0 49 3 vp m vc VC ∧ Kept w (((((((W.setCell ⟨r, 0, none⟩ a0).setCell ⟨r, 1, none⟩ a1).setCell ⟨r, 2, none⟩ a2).setCell ⟨r, 3, none⟩ a3).setCell ⟨q, 0, none⟩ v0).setCell ⟨q, 1, none⟩ v1).setCell ⟨q, 2, none⟩ v2) := by
  have hR := (ready4 s.R.out a0 a1 a2 a3).2.2.2.2
  have hQ0 : ((((W.setCell ⟨r, 0, none⟩ a0).setCell ⟨r, 1, none⟩ a1).setCell ⟨r, 2, none⟩ a2).setCell ⟨r, 3, none⟩ a3).heap[q]? = _ := (others4 W (Ne.symm hrq) a0 a1 a2 a3).trans s.Q.out
  exact ⟨(others3 _ hrq v0 v1 v2).trans hR, (ready3 hQ0 v0 v1 v2).2.2.2, (s.OK.st4 s.hr _ _ _ _).st3 s.hq _ _ _, (s.OV.st4 s.hr _ _ _ _).st3 s.hq _ _ _, (s.K.st4 s.wr _ _ _ _).st3 s.wq _ _ _⟩

set_option maxHeartbeats 4000000 in
set_option maxRecDepth 100000 in
theorem set_new {w : World} {l : Bool} {kp vp ip : Option Addr} {n kc vc ni ic : Nat} {ks : List ByteArray} {vs : List Vl} (hk : Rw w 1 kp n kc (kcl ks)) (hv : Rw w 3 vp n vc (vcl vs)) (hn : n ≤ 99999) (key : ByteArray) (v : Vl) (hs : isk key ks = false) :
    Calls Try.prog 20 #[.agg #[.bool l, .slice kp n kc, .slice vp n vc, .slice ip ni ic], .string key, .agg #[.string v.d, .int .i64 v.p, .int .i64 v.l]] w fun e w' => ∃ kp' kc' vp' vc', e = .returned (.tuple #[.agg #[.bool true, .slice kp' (n + 1) kc', .slice vp' (n + 1) vc', .slice none 0 0], .agg #[.string ⟨#[]⟩, .int .i64 (-1), .int .i64 0], .bool false]) ∧ Own w' w.heap.size 9 1 kp' (n + 1) kc' (kcl (ins ks (fnd key ks) key)) ∧ Own w' w.heap.size 49 3 vp' (n + 1) vc' (vcl (ins vs (fnd key ks) v)) ∧ Kept w w' := by
  obtain ⟨d, p, ln⟩ := v
  have hkl : ks.length = n := by have := hk.len; rw [kcl_length, Nat.mul_one] at this; exact this
  have hvl : vs.length = n := by have := hv.len; rw [vcl_length] at this; omega
  have HL : Hid (∀ W, Kept w W → Calls Try.prog 44 #[.agg #[.bool l, .slice kp n kc, .slice vp n vc, .slice ip ni ic]] W fun e w' => ∃ kp' kc' vp', e = .returned (.agg #[.bool true, .slice kp' n kc', .slice vp' n n, .slice none 0 0]) ∧ Own w' W.heap.size 9 1 kp' n kc' (kcl ks) ∧ Own w' W.heap.size 49 3 vp' n n (vcl vs) ∧ Kept W w') := fun W hW => leafOf_walk (hW.rw hk) (hW.rw hv) (kcl_one _) (vcl_one _) (by omega)
  have hi : fnd key ks ≤ n := by rw [← hkl]; exact fnd_le _ _
  have HF : Hid (∀ (W : World) (p : Option Addr) (c : Nat), Rw W 1 p n c (kcl ks) → Calls Try.prog 19 #[.slice p n c, .string key] W fun e w' => e = .returned (.tuple #[.int .i64 (fnd key ks : Nat), .bool false]) ∧ w' = W) := fun W p c h => by have := find_walk h (by omega) key; rwa [hs] at this
  generalize hI : fnd key ks = i at *
  have HK : Hid (kcl (ins ks i key) = (kcl ks).take i ++ Value.string key :: (kcl ks).drop i) := (ins_kcl ks i key).symm
  have HV : Hid (vcl (ins vs i ⟨d, p, ln⟩) = (vcl vs).take (i * 3) ++ [.string d, .int .i64 p, .int .i64 ln] ++ (vcl vs).drop (i * 3)) := (ins_vcl vs i ⟨d, p, ln⟩).symm
  have H1 : Hid (∀ u ∈ kcl ks, u.oneCell' = true) := kcl_one _
  have H2 : Hid (∀ u ∈ vcl vs, u.oneCell' = true) := vcl_one _
  have H3 : Hid (∀ u ∈ [Value.string d, Value.int .i64 p, Value.int .i64 ln], u.oneCell' = true) := Vl.one ⟨d, p, ln⟩
  obtain ⟨oA, hoA⟩ : ∃ o : Obj, o = .cells #[.bool l, .slice kp n kc, .slice vp n vc, .slice ip ni ic] 27 := ⟨_, rfl⟩
  obtain ⟨oB, hoB⟩ : ∃ o : Obj, o = .cells #[.string d, .int .i64 p, .int .i64 ln] 49 := ⟨_, rfl⟩
  obtain ⟨oC, hoC⟩ : ∃ o : Obj, o = .cells #[.bool false, .slice none 0 0, .slice none 0 0, .slice none 0 0] 27 := ⟨_, rfl⟩
  obtain ⟨oD, hoD⟩ : ∃ o : Obj, o = .cells #[.string ⟨#[]⟩, .int .i64 0, .int .i64 0] 49 := ⟨_, rfl⟩
  have K0 : Kept w ((((w.alloc oA).alloc oB).alloc oC).alloc oD) := ((((Kept.refl w).alloc _).alloc _).alloc _).alloc _
  have S0 : ((((w.alloc oA).alloc oB).alloc oC).alloc oD).heap.size = w.heap.size + 4 := by rw [size_alloc, size_alloc, size_alloc, size_alloc]
  have B0 : C3 ((((w.alloc oA).alloc oB).alloc oC).alloc oD) (w.heap.size + 1) 49 (.string d) (.int .i64 p) (.int .i64 ln) := by
    subst hoB; rw [← size_alloc w oA]; exact (C3.alloc _ 49 _ _ _).kept (((Kept.refl _).alloc _).alloc _)
  have R0 : C4 ((((w.alloc oA).alloc oB).alloc oC).alloc oD) (w.heap.size + 1 + 1) 27 (.bool false) (.slice none 0 0) (.slice none 0 0) (.slice none 0 0) := by
    subst hoC; rw [show w.heap.size + 1 + 1 = ((w.alloc oA).alloc oB).heap.size by rw [size_alloc, size_alloc]]; exact (C4.alloc _ 27 _ _ _ _).kept ((Kept.refl _).alloc _)
  have Q0 : C3 ((((w.alloc oA).alloc oB).alloc oC).alloc oD) (w.heap.size + 1 + 1 + 1) 49 (.string ⟨#[]⟩) (.int .i64 0) (.int .i64 0) := by
    subst hoD; rw [show w.heap.size + 1 + 1 + 1 = (((w.alloc oA).alloc oB).alloc oC).heap.size by rw [size_alloc, size_alloc, size_alloc]]; exact C3.alloc _ 49 _ _ _
  subst hoA; subst hoB; subst hoC; subst hoD
  clear hk hv hkl hvl
  go_enter Try.func20, Try.ntmps20
  go_wp2_with (first
    | (go_at_call 44
       (with_reducible refine (HL.out _ K0).mono ?_)
       rintro e v1 ⟨kp1, kc1, vp1, rfl, O1, O2, k1⟩
       rw [S0] at O1 O2
       have S1 := k1.size
       rw [S0] at S1
       have s1 : SS w v1 (w.heap.size + 4) (w.heap.size + 1 + 1) (w.heap.size + 1 + 1 + 1) v1.heap.size kp1 n kc1 (kcl ks) vp1 n n (vcl vs) := ⟨K0.trans k1, R0.kept k1, Q0.kept k1, O1, O2, by omega, by omega, by omega, S1, by omega, by omega⟩
       have b1 := B0.kept k1
       clear B0 R0 Q0 K0 HL S0 k1 O1 O2
       have x1 := C4.alloc v1 27 (.bool true) (.slice kp1 n kc1) (.slice vp1 n n) (.slice none 0 0)
       have k2 := (Kept.refl v1).alloc (.cells #[.bool true, .slice kp1 n kc1, .slice vp1 n n, .slice none 0 0] 27)
       have s2 := s1.kept k2
       have b2 := b1.kept k2
       have z2 := size_alloc v1 (.cells #[.bool true, .slice kp1 n kc1, .slice vp1 n n, .slice none 0 0] 27)
       clear k2 s1 b1)
    | (go_at_call 19
       (with_reducible refine (HF.out _ _ _ s2.OK.rw).mono ?_)
       rintro e v2 ⟨rfl, hv2⟩
       rw [hv2]
       clear hv2 HF
       have hV := heap_alloc_new (v1.alloc (.cells #[.bool true, .slice kp1 n kc1, .slice vp1 n n, .slice none 0 0] 27)) (.cells #[.string key] 9)
       have z3 := size_alloc (v1.alloc (.cells #[.bool true, .slice kp1 n kc1, .slice vp1 n n, .slice none 0 0] 27)) (.cells #[.string key] 9)
       have hH := s2.OK.head_ne (b := v1.heap.size + 1) (by rw [z2]; exact Nat.le_refl _)
       have k3 := (Kept.refl (v1.alloc (.cells #[.bool true, .slice kp1 n kc1, .slice vp1 n n, .slice none 0 0] 27))).alloc (.cells #[.string key] 9)
       have s3 := s2.kept k3
       have b3 := b2.kept k3
       have x3 := x1.kept k3
       rw [z2] at hV z3
       clear k3 s2 b2 z2)
    | (go_at_call 45
       (with_reducible refine (insert45 s3.OK (by rw [z3]; omega) i hi (by omega) H1.out _ _ hV hH rfl).mono ?_)
       rintro e v4 ⟨kp4, kc4, rfl, o4, g4⟩
       rw [← HK.out] at o4
       have x4 := x3.grown g4 (x3.own_ne s3.OK (by decide))
       have b4 := b3.grown g4 (s3.OK.blk_ne (.inl (by omega)))
       have z4 := g4.size
       rw [z3] at z4
       have s4 := s3.keys g4 o4
       clear s3 x3 b3 g4 o4 z3 hV hH
       have c4 := x4.cs.2.1
       have f4 := x4.fz 1
       have s5 := s4.store x4 1 (.slice kp4 (n + 1) kc4)
       have x5 := x4.set1 (.slice kp4 (n + 1) kc4)
       have b5 := b4.far ⟨v1.heap.size, 1, none⟩ (.slice kp4 (n + 1) kc4) (by show w.heap.size + 1 ≠ v1.heap.size; omega)
       have z5 : (v4.setCell ⟨v1.heap.size, 1, none⟩ (.slice kp4 (n + 1) kc4)).heap.size = v4.heap.size := size_set _ _ _
       clear s4 b4
       have hV2 := heap_alloc_new (v4.setCell ⟨v1.heap.size, 1, none⟩ (.slice kp4 (n + 1) kc4)) (.cells #[.string d, .int .i64 p, .int .i64 ln] 49)
       have z6 := size_alloc (v4.setCell ⟨v1.heap.size, 1, none⟩ (.slice kp4 (n + 1) kc4)) (.cells #[.string d, .int .i64 p, .int .i64 ln] 49)
       have k6 := (Kept.refl (v4.setCell ⟨v1.heap.size, 1, none⟩ (.slice kp4 (n + 1) kc4))).alloc (.cells #[.string d, .int .i64 p, .int .i64 ln] 49)
       obtain ⟨e0, e1, e2⟩ := b5.cs
       have e3 := x5.cs.2.2.1
       have s6 := s5.kept k6
       have x6 := x5.kept k6
       rw [z5] at hV2 z6
       clear s5 x5 k6 z5 b5)
    | (go_at_call 46
       (with_reducible refine (insert46 s6.OV i hi (by omega) H2.out _ [.string d, .int .i64 p, .int .i64 ln] rfl hV2 H3.out).mono ?_)
       rintro e v7 ⟨vp7, vc7, rfl, o7, k7⟩
       rw [← HV.out] at o7
       have x7 := x6.kept k7
       have s7 := s6.vals k7 (by rw [z6]; omega) o7
       clear s6 x6 o7 k7 hV2 z6
       have c7 := x7.cs.2.2.1
       have f7 := x7.fz 2
       have s8 := s7.store x7 2 (.slice vp7 (n + 1) vc7)
       have x8 := x7.set2 (.slice vp7 (n + 1) vc7)
       clear s7 x7))
  generalize hW8 : v7.setCell ⟨v1.heap.size, 2, none⟩ (.slice vp7 (n + 1) vc7) = W8 at *
  clear hW8 c4 f4 x4 e0 e1 e2 e3 c7 f7
  have hne1 : ¬ (v1.heap.size = w.heap.size + 1 + 1) := by omega
  have hne2 : ¬ (v1.heap.size = w.heap.size + 1 + 1 + 1) := by omega
  have x8 := x8.drew
  have s8 := s8.kept (Kept.refl W8).drew
  obtain ⟨c0, c1, c2, c3⟩ := x8.cs
  go_region_with (first
    | (go_at_call 47
       (with_reducible refine (nothing_walk _).mono ?_)
       rintro e v9 ⟨rfl, k9⟩
       have x9 := x8.kept k9
       have s9 := s8.kept k9
       clear x8 s8
       obtain ⟨d0, d1, d2, d3⟩ := x9.cs
       obtain ⟨⟨g0, f0⟩, ⟨g1, f1⟩, ⟨g2, f2⟩, ⟨g3, f3⟩, hR⟩ := ready4 s9.R.out (.bool true) (.slice kp4 (n + 1) kc4) (.slice vp7 (n + 1) vc7) (.slice none 0 0)
       have hQ0 : ((((v9.setCell ⟨(w.heap.size + 1 + 1), 0, none⟩ (.bool true)).setCell ⟨(w.heap.size + 1 + 1), 1, none⟩ (.slice kp4 (n + 1) kc4)).setCell ⟨(w.heap.size + 1 + 1), 2, none⟩ (.slice vp7 (n + 1) vc7)).setCell ⟨(w.heap.size + 1 + 1), 3, none⟩ (.slice none 0 0)).heap[w.heap.size + 1 + 1 + 1]? = _ := (others4 v9 (by omega) _ _ _ _).trans s9.Q.out
       obtain ⟨⟨q0, y0⟩, ⟨q1, y1⟩, ⟨q2, y2⟩, hQ⟩ := ready3 hQ0 (.string ⟨#[]⟩) (.int .i64 (-1)) (.int .i64 0)))
  all_goals
    obtain ⟨F1, F2, F3, F4, F5⟩ := s9.done (by omega) (.bool true) (.slice kp4 (n + 1) kc4) (.slice vp7 (n + 1) vc7) (.slice none 0 0) (.string ⟨#[]⟩) (.int .i64 (-1)) (.int .i64 0)
    generalize hWF : (((((((v9.setCell ⟨(w.heap.size + 1 + 1), 0, none⟩ (.bool true)).setCell ⟨(w.heap.size + 1 + 1), 1, none⟩ (.slice kp4 (n + 1) kc4)).setCell ⟨(w.heap.size + 1 + 1), 2, none⟩ (.slice vp7 (n + 1) vc7)).setCell ⟨(w.heap.size + 1 + 1), 3, none⟩ (.slice none 0 0)).setCell ⟨(w.heap.size + 1 + 1 + 1), 0, none⟩ (.string ⟨#[]⟩)).setCell ⟨(w.heap.size + 1 + 1 + 1), 1, none⟩ (.int .i64 (-1))).setCell ⟨(w.heap.size + 1 + 1 + 1), 2, none⟩ (.int .i64 0)) = WF at F1 F2 F3 F4 F5 ⊢
    clear hWF x9 s9 g0 f0 g1 f1 g2 f2 g3 f3 hR hQ0 q0 y0 q1 y1 q2 y2 hQ
    go_wp2
    refine bodyPost_ret (v := .tuple #[.agg #[.bool true, .slice kp4 (n + 1) kc4, .slice vp7 (n + 1) vc7, .slice none 0 0], .agg #[.string ⟨#[]⟩, .int .i64 (-1), .int .i64 0], .bool false]) ?_ rfl ⟨_, _, _, _, rfl, F3.mono (by omega), F4.mono (by omega), F5⟩
    exact results_three (p := 6) (q := 7) (u := 8) (ty := 27) (tz := 49) rfl _ _ (w.heap.size + 1 + 1) (w.heap.size + 1 + 1 + 1) 27 49 #[.bool true, .slice kp4 (n + 1) kc4, .slice vp7 (n + 1) vc7, .slice none 0 0] #[.string ⟨#[]⟩, .int .i64 (-1), .int .i64 0] (0, 0) (0, 0) _ _ rfl F1 Try.underlying27 rfl size27 rfl F2 Try.underlying49 rfl size49
end Go.Proofs.Ytgcfollelefmcaa
