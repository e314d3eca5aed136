/- The walk of node.Set of a key that was there. Conditions: 99999 keys at most, as many values. -/
import Derived.Test.YtgcfollelefmcaaNF
namespace Go.Proofs.Ytgcfollelefmcaa
open Go.ChangeShapes Go.WideShapes Go.ChangeAt Go.RowKit

theorem Own.some_of {w : World} {B : Nat} {e : TypeId} {sz : Nat} {p : Option Addr} {n c : Nat} {cs : List Value} (k : Own w B e sz p n c cs) (h : 0 < n) : ∃ g, p = some ⟨g, 0, none⟩ := by
  rcases k.cases with ⟨_, h0, _⟩ | ⟨g, cur, rfl, _⟩
  · omega
  · exact ⟨g, rfl⟩
theorem Own.cell {w : World} {B : Nat} {e : TypeId} {sz g n c : Nat} {cs : List Value} (k : Own w B e sz (some ⟨g, 0, none⟩) n c cs) {j : Nat} {u : Value} (h : cs[j]? = some u) : w.cell? ⟨g, j, none⟩ = some u := by
  rcases k.rw.out with ⟨hx, _⟩ | ⟨b, off, hx, hc⟩
  · cases hx
  · injection hx with hx
    injection hx with h1 h2
    subst h1; subst h2
    have := hc j u h
    rwa [Nat.zero_add] at this
theorem Own.fz {w : World} {B : Nat} {e : TypeId} {sz g n c : Nat} {cs : List Value} (k : Own w B e sz (some ⟨g, 0, none⟩) n c cs) (j : Nat) : w.frozen? ⟨g, j, none⟩ = false := by
  rcases k.cases with ⟨hx, _⟩ | ⟨g', cur, hx, _, _, hg, _⟩
  · cases hx
  · injection hx with hx
    injection hx with hx
    subst hx
    exact frozen_of_row w g j _ _ hg
theorem Own.val {w : World} {B : Nat} {g n c : Nat} {vs : List Vl} (k : Own w B 49 3 (some ⟨g, 0, none⟩) n c (vcl vs)) {i : Nat} {v : Vl} (h : vs[i]? = some v) :
    w.cell? ⟨g, i * 3, none⟩ = some (.string v.d) ∧ w.cell? ⟨g, i * 3 + 1, none⟩ = some (.int .i64 v.p) ∧ w.cell? ⟨g, i * 3 + 2, none⟩ = some (.int .i64 v.l) := by
  obtain ⟨a, b, d⟩ := vcl_at h
  exact ⟨k.cell a, k.cell b, k.cell d⟩

theorem vcl_set {vs : List Vl} {i : Nat} (h : i < vs.length) (v : Vl) : (((vcl vs).set (i * 3) (.string v.d)).set (i * 3 + 1) (.int .i64 v.p)).set (i * 3 + 2) (.int .i64 v.l) = vcl (vs.set i v) := by
  have e : vcl vs = vcl (vs.take i) ++ (vs[i].cells ++ vcl (vs.drop (i + 1))) := by
    rw [← vcl_cons, List.getElem_cons_drop h, ← vcl_append, List.take_append_drop]
  have e2 : vcl (vs.set i v) = vcl (vs.take i) ++ (v.cells ++ vcl (vs.drop (i + 1))) := by
    rw [← vcl_cons, ← vcl_append, List.set_eq_take_append_cons_drop, if_pos h]
  have hn : (vcl (vs.take i)).length = i * 3 := by rw [vcl_length, List.length_take]; omega
  rw [e, e2, List.set_append_right _ _ (by omega), List.set_append_right _ _ (by omega), List.set_append_right _ _ (by omega), hn, Nat.sub_self, show i * 3 + 1 - i * 3 = 1 by omega, show i * 3 + 2 - i * 3 = 2 by omega]
  simp [Vl.cells]

/-- A value is stored into a row of one's own. -/
theorem Own.put {w : World} {B g n c : Nat} {vs : List Vl} (k : Own w B 49 3 (some ⟨g, 0, none⟩) n c (vcl vs)) {i : Nat} {o : Vl} (h : vs[i]? = some o) (v : Vl) :
    (w.cell? ⟨g, i * 3, none⟩ = some (.string o.d) ∧ w.frozen? ⟨g, i * 3, none⟩ = false) ∧
    ((w.setCell ⟨g, i * 3, none⟩ (.string v.d)).cell? ⟨g, i * 3 + 1, none⟩ = some (.int .i64 o.p) ∧ (w.setCell ⟨g, i * 3, none⟩ (.string v.d)).frozen? ⟨g, i * 3 + 1, none⟩ = false) ∧
    (((w.setCell ⟨g, i * 3, none⟩ (.string v.d)).setCell ⟨g, i * 3 + 1, none⟩ (.int .i64 v.p)).cell? ⟨g, i * 3 + 2, none⟩ = some (.int .i64 o.l) ∧ ((w.setCell ⟨g, i * 3, none⟩ (.string v.d)).setCell ⟨g, i * 3 + 1, none⟩ (.int .i64 v.p)).frozen? ⟨g, i * 3 + 2, none⟩ = false) ∧
    Own (((w.setCell ⟨g, i * 3, none⟩ (.string v.d)).setCell ⟨g, i * 3 + 1, none⟩ (.int .i64 v.p)).setCell ⟨g, i * 3 + 2, none⟩ (.int .i64 v.l)) B 49 3 (some ⟨g, 0, none⟩) n c (vcl (vs.set i v)) ∧
    w.grownBy (((w.setCell ⟨g, i * 3, none⟩ (.string v.d)).setCell ⟨g, i * 3 + 1, none⟩ (.int .i64 v.p)).setCell ⟨g, i * 3 + 2, none⟩ (.int .i64 v.l)) (some g) := by
  have hi := (List.getElem?_eq_some_iff.1 h).1
  obtain ⟨a, b, d⟩ := vcl_at h
  obtain ⟨k1, g1⟩ := k.out.stored (i * 3) (.string v.d)
  obtain ⟨k2, g2⟩ := k1.stored (i * 3 + 1) (.int .i64 v.p)
  obtain ⟨k3, g3⟩ := k2.stored (i * 3 + 2) (.int .i64 v.l)
  have o1 : Own _ B 49 3 (some ⟨g, 0, none⟩) n c _ := ⟨k1⟩
  have o2 : Own _ B 49 3 (some ⟨g, 0, none⟩) n c _ := ⟨k2⟩
  rw [vcl_set hi] at k3
  refine ⟨⟨k.cell a, k.fz _⟩, ⟨o1.cell ?_, o1.fz _⟩, ⟨o2.cell ?_, o2.fz _⟩, ⟨k3⟩, ?_⟩
  · rw [List.getElem?_set_ne (by omega)]; exact b
  · rw [List.getElem?_set_ne (by omega), List.getElem?_set_ne (by omega)]; exact d
  · exact ⟨(g3.os.trans g2.os).trans g1.os, (g3.tape.trans g2.tape).trans g1.tape, (g3.output.trans g2.output).trans g1.output, Nat.le_trans g1.size (Nat.le_trans g2.size g3.size), fun j hj hne => (g3.block j (Nat.lt_of_lt_of_le hj (Nat.le_trans g1.size g2.size)) hne).trans ((g2.block j (Nat.lt_of_lt_of_le hj g1.size) hne).trans (g1.block j hj hne))⟩

set_option maxHeartbeats 4000000 in
set_option maxRecDepth 100000 in
theorem set_old {w : World} {l : Bool} {kp vp ip : Option Addr} {n kc vc ni ic : Nat} {ks : List ByteArray} {vs : List Vl} (hk : Rw w 1 kp n kc (kcl ks)) (hv : Rw w 3 vp n vc (vcl vs)) (hn : n ≤ 99999) (key : ByteArray) (v : Vl) (hs : isk key ks = true) :
    Calls Try.prog 20 #[.agg #[.bool l, .slice kp n kc, .slice vp n vc, .slice ip ni ic], .string key, .agg #[.string v.d, .int .i64 v.p, .int .i64 v.l]] w fun e w' => ∃ kp' kc' vp' vc' o, vs[fnd key ks]? = some o ∧ e = .returned (.tuple #[.agg #[.bool true, .slice kp' n kc', .slice vp' n vc', .slice none 0 0], .agg #[.string o.d, .int .i64 o.p, .int .i64 o.l], .bool true]) ∧ Own w' w.heap.size 9 1 kp' n kc' (kcl ks) ∧ Own w' w.heap.size 49 3 vp' n vc' (vcl (vs.set (fnd key ks) v)) ∧ Kept w w' := by
  obtain ⟨d, p, ln⟩ := v
  have hkl : ks.length = n := by have := hk.len; rw [kcl_length, Nat.mul_one] at this; exact this
  have hvl : vs.length = n := by have := hv.len; rw [vcl_length] at this; omega
  have HL : Hid (∀ W, Kept w W → Calls Try.prog 44 #[.agg #[.bool l, .slice kp n kc, .slice vp n vc, .slice ip ni ic]] W fun e w' => ∃ kp' kc' vp', e = .returned (.agg #[.bool true, .slice kp' n kc', .slice vp' n n, .slice none 0 0]) ∧ Own w' W.heap.size 9 1 kp' n kc' (kcl ks) ∧ Own w' W.heap.size 49 3 vp' n n (vcl vs) ∧ Kept W w') := fun W hW => leafOf_walk (hW.rw hk) (hW.rw hv) (kcl_one _) (vcl_one _) (by omega)
  have hi : fnd key ks < n := by rw [← hkl]; exact isk_lt hs
  have HF : Hid (∀ (W : World) (p : Option Addr) (c : Nat), Rw W 1 p n c (kcl ks) → Calls Try.prog 19 #[.slice p n c, .string key] W fun e w' => e = .returned (.tuple #[.int .i64 (fnd key ks : Nat), .bool true]) ∧ w' = W) := fun W p c h => by have := find_walk h (by omega) key; rwa [hs] at this
  generalize hI : fnd key ks = i at *
  obtain ⟨o, ho⟩ : ∃ o, vs[i]? = some o := ⟨_, List.getElem?_eq_getElem (by omega)⟩
  obtain ⟨oA, hoA⟩ : ∃ o : Obj, o = .cells #[.bool l, .slice kp n kc, .slice vp n vc, .slice ip ni ic] 27 := ⟨_, rfl⟩
  obtain ⟨oB, hoB⟩ : ∃ o : Obj, o = .cells #[.string d, .int .i64 p, .int .i64 ln] 49 := ⟨_, rfl⟩
  obtain ⟨oC, hoC⟩ : ∃ o : Obj, o = .cells #[.bool false, .slice none 0 0, .slice none 0 0, .slice none 0 0] 27 := ⟨_, rfl⟩
  obtain ⟨oD, hoD⟩ : ∃ o : Obj, o = .cells #[.string ⟨#[]⟩, .int .i64 0, .int .i64 0] 49 := ⟨_, rfl⟩
  have K0 : Kept w ((((w.alloc oA).alloc oB).alloc oC).alloc oD) := ((((Kept.refl w).alloc _).alloc _).alloc _).alloc _
  have S0 : ((((w.alloc oA).alloc oB).alloc oC).alloc oD).heap.size = w.heap.size + 4 := by rw [size_alloc, size_alloc, size_alloc, size_alloc]
  have B0 : C3 ((((w.alloc oA).alloc oB).alloc oC).alloc oD) (w.heap.size + 1) 49 (.string d) (.int .i64 p) (.int .i64 ln) := by
    subst hoB; rw [← size_alloc w oA]; exact (C3.alloc _ 49 _ _ _).kept (((Kept.refl _).alloc _).alloc _)
  have R0 : C4 ((((w.alloc oA).alloc oB).alloc oC).alloc oD) (w.heap.size + 1 + 1) 27 (.bool false) (.slice none 0 0) (.slice none 0 0) (.slice none 0 0) := by
    subst hoC; rw [show w.heap.size + 1 + 1 = ((w.alloc oA).alloc oB).heap.size by rw [size_alloc, size_alloc]]; exact (C4.alloc _ 27 _ _ _ _).kept ((Kept.refl _).alloc _)
  have Q0 : C3 ((((w.alloc oA).alloc oB).alloc oC).alloc oD) (w.heap.size + 1 + 1 + 1) 49 (.string ⟨#[]⟩) (.int .i64 0) (.int .i64 0) := by
    subst hoD; rw [show w.heap.size + 1 + 1 + 1 = (((w.alloc oA).alloc oB).alloc oC).heap.size by rw [size_alloc, size_alloc, size_alloc]]; exact C3.alloc _ 49 _ _ _
  subst hoA; subst hoB; subst hoC; subst hoD
  clear hk hv hkl hvl
  go_enter Try.func20, Try.ntmps20
  go_wp2_with (first
    | (go_at_call 44
       (with_reducible refine (HL.out _ K0).mono ?_)
       rintro e v1 ⟨kp1, kc1, vp1, rfl, O1, O2, k1⟩
       rw [S0] at O1 O2
       have S1 := k1.size
       rw [S0] at S1
       have s1 : SS w v1 (w.heap.size + 4) (w.heap.size + 1 + 1) (w.heap.size + 1 + 1 + 1) v1.heap.size kp1 n kc1 (kcl ks) vp1 n n (vcl vs) := ⟨K0.trans k1, R0.kept k1, Q0.kept k1, O1, O2, by omega, by omega, by omega, S1, by omega, by omega⟩
       have b1 := B0.kept k1
       clear B0 R0 Q0 K0 HL S0 k1 O1 O2
       have x1 := C4.alloc v1 27 (.bool true) (.slice kp1 n kc1) (.slice vp1 n n) (.slice none 0 0)
       have k2 := (Kept.refl v1).alloc (.cells #[.bool true, .slice kp1 n kc1, .slice vp1 n n, .slice none 0 0] 27)
       have s2 := s1.kept k2
       have b2 := b1.kept k2
       have z2 := size_alloc v1 (.cells #[.bool true, .slice kp1 n kc1, .slice vp1 n n, .slice none 0 0] 27)
       clear k2 s1 b1)
    | (go_at_call 19
       (with_reducible refine (HF.out _ _ _ s2.OK.rw).mono ?_)
       rintro e v2 ⟨rfl, hv2⟩
       rw [hv2]
       clear hv2 HF
       obtain ⟨g, rfl⟩ := s2.OV.some_of (by omega)
       obtain ⟨t0, t1, t2⟩ := s2.OV.val ho
       have hgl : g < v1.heap.size + 1 := by have := (s2.OV.out.lt g rfl).2; rwa [z2] at this
       obtain ⟨⟨r0, u0⟩, ⟨r1, u1⟩, ⟨r2, u2⟩, o4, g4⟩ := s2.OV.put ho ⟨d, p, ln⟩
       have a0 : ∀ o', ((v1.alloc (.cells #[.bool true, .slice kp1 n kc1, .slice (some ⟨g, 0, none⟩) n n, .slice none 0 0] 27)).alloc o').cell? ⟨g, i * 3, none⟩ = some (.string o.d) := fun o' => ((Kept.refl _).alloc o').cell r0
       have a1 : ∀ o', (((v1.alloc (.cells #[.bool true, .slice kp1 n kc1, .slice (some ⟨g, 0, none⟩) n n, .slice none 0 0] 27)).setCell ⟨g, i * 3, none⟩ (.string d)).alloc o').cell? ⟨g, i * 3 + 1, none⟩ = some (.int .i64 o.p) := fun o' => ((Kept.refl _).alloc o').cell r1
       have a2 : ∀ o', ((((v1.alloc (.cells #[.bool true, .slice kp1 n kc1, .slice (some ⟨g, 0, none⟩) n n, .slice none 0 0] 27)).setCell ⟨g, i * 3, none⟩ (.string d)).setCell ⟨g, i * 3 + 1, none⟩ (.int .i64 p)).alloc o').cell? ⟨g, i * 3 + 2, none⟩ = some (.int .i64 o.l) := fun o' => ((Kept.refl _).alloc o').cell r2
       have a3 : ∀ o', ((v1.alloc (.cells #[.bool true, .slice kp1 n kc1, .slice (some ⟨g, 0, none⟩) n n, .slice none 0 0] 27)).alloc o').frozen? ⟨g, i * 3, none⟩ = false := fun o' => (s2.OV.kept ((Kept.refl _).alloc o')).fz _
       have a4 : ∀ o', (((v1.alloc (.cells #[.bool true, .slice kp1 n kc1, .slice (some ⟨g, 0, none⟩) n n, .slice none 0 0] 27)).setCell ⟨g, i * 3, none⟩ (.string d)).alloc o').frozen? ⟨g, i * 3 + 1, none⟩ = false := fun o' => (Own.kept ⟨(s2.OV.out.stored (i * 3) (.string d)).1⟩ ((Kept.refl _).alloc o')).fz _
       have a5 : ∀ o', ((((v1.alloc (.cells #[.bool true, .slice kp1 n kc1, .slice (some ⟨g, 0, none⟩) n n, .slice none 0 0] 27)).setCell ⟨g, i * 3, none⟩ (.string d)).setCell ⟨g, i * 3 + 1, none⟩ (.int .i64 p)).alloc o').frozen? ⟨g, i * 3 + 2, none⟩ = false := fun o' => (Own.kept ⟨((s2.OV.out.stored (i * 3) (.string d)).1.stored (i * 3 + 1) (.int .i64 p)).1⟩ ((Kept.refl _).alloc o')).fz _
       have x4 := (x1.grown g4 (x1.own_ne s2.OV (by decide))).kept ((Kept.refl _).alloc (.cells #[.string o.d, .int .i64 o.p, .int .i64 o.l] 49))
       have y4 := C3.alloc ((((v1.alloc (.cells #[.bool true, .slice kp1 n kc1, .slice (some ⟨g, 0, none⟩) n n, .slice none 0 0] 27)).setCell ⟨g, i * 3, none⟩ (.string d)).setCell ⟨g, i * 3 + 1, none⟩ (.int .i64 p)).setCell ⟨g, i * 3 + 2, none⟩ (.int .i64 ln)) 49 (.string o.d) (.int .i64 o.p) (.int .i64 o.l)
       rw [size_set, size_set, size_set, z2] at y4
       have s4 := (s2.valsG g4 o4).kept ((Kept.refl _).alloc (.cells #[.string o.d, .int .i64 o.p, .int .i64 o.l] 49))
       have b3 : ∀ o', C3 ((v1.alloc (.cells #[.bool true, .slice kp1 n kc1, .slice (some ⟨g, 0, none⟩) n n, .slice none 0 0] 27)).alloc o') (w.heap.size + 1) 49 (.string d) (.int .i64 p) (.int .i64 ln) := fun o' => b2.kept ((Kept.refl _).alloc o')
       have c0 := fun o' => (b3 o').cs.1
       have c1 := fun o' => (b3 o').cs.2.1
       have c2 := fun o' => (b3 o').cs.2.2
       have x3 : ∀ o', C4 ((v1.alloc (.cells #[.bool true, .slice kp1 n kc1, .slice (some ⟨g, 0, none⟩) n n, .slice none 0 0] 27)).alloc o') v1.heap.size 27 _ _ _ _ := fun o' => x1.kept ((Kept.refl _).alloc o')
       have d2 := fun o' => (x3 o').cs.2.2.1
       clear o4 g4 r0 r1 r2 u0 u1 u2))
  generalize hW4 : (((((v1.alloc (.cells #[.bool true, .slice kp1 n kc1, .slice (some ⟨g, 0, none⟩) n n, .slice none 0 0] 27)).setCell ⟨g, i * 3, none⟩ (.string d)).setCell ⟨g, i * 3 + 1, none⟩ (.int .i64 p)).setCell ⟨g, i * 3 + 2, none⟩ (.int .i64 ln)).alloc (.cells #[.string o.d, .int .i64 o.p, .int .i64 o.l] 49)) = W4 at x4 y4 s4 ⊢
  clear hW4 s2 x3 b3 b2 x1 a0 a1 a2 a3 a4 a5 c0 c1 c2 d2 t0 t1 t2
  have s5 := s4
  have x5 := x4
  have y5 := y4
  clear s4 x4 y4
  obtain ⟨c0, c1, c2, c3⟩ := x5.cs
  obtain ⟨d0, d1, d2⟩ := y5.cs
  obtain ⟨⟨g0, f0⟩, ⟨g1, f1⟩, ⟨g2, f2⟩, ⟨g3, f3⟩, hR⟩ := ready4 s5.R.out (.bool true) (.slice kp1 n kc1) (.slice (some ⟨g, 0, none⟩) n n) (.slice none 0 0)
  have hQ0 : ((((W4.setCell ⟨(w.heap.size + 1 + 1), 0, none⟩ (.bool true)).setCell ⟨(w.heap.size + 1 + 1), 1, none⟩ (.slice kp1 n kc1)).setCell ⟨(w.heap.size + 1 + 1), 2, none⟩ (.slice (some ⟨g, 0, none⟩) n n)).setCell ⟨(w.heap.size + 1 + 1), 3, none⟩ (.slice none 0 0)).heap[w.heap.size + 1 + 1 + 1]? = _ := (others4 W4 (by omega) _ _ _ _).trans s5.Q.out
  obtain ⟨⟨q0, y0⟩, ⟨q1, y1⟩, ⟨q2, y2⟩, hQ⟩ := ready3 hQ0 (.string o.d) (.int .i64 o.p) (.int .i64 o.l)
  go_region
  all_goals
    obtain ⟨F1, F2, F3, F4, F5⟩ := s5.done (by omega) (.bool true) (.slice kp1 n kc1) (.slice (some ⟨g, 0, none⟩) n n) (.slice none 0 0) (.string o.d) (.int .i64 o.p) (.int .i64 o.l)
    generalize hWF : (((((((W4.setCell ⟨(w.heap.size + 1 + 1), 0, none⟩ (.bool true)).setCell ⟨(w.heap.size + 1 + 1), 1, none⟩ (.slice kp1 n kc1)).setCell ⟨(w.heap.size + 1 + 1), 2, none⟩ (.slice (some ⟨g, 0, none⟩) n n)).setCell ⟨(w.heap.size + 1 + 1), 3, none⟩ (.slice none 0 0)).setCell ⟨(w.heap.size + 1 + 1 + 1), 0, none⟩ (.string o.d)).setCell ⟨(w.heap.size + 1 + 1 + 1), 1, none⟩ (.int .i64 o.p)).setCell ⟨(w.heap.size + 1 + 1 + 1), 2, none⟩ (.int .i64 o.l)) = WF at F1 F2 F3 F4 F5 ⊢
    clear hWF x5 s5 y5 g0 f0 g1 f1 g2 f2 g3 f3 hR hQ0 q0 y0 q1 y1 q2 y2 hQ c0 c1 c2 c3 d0 d1 d2
    go_wp2
    refine bodyPost_ret (v := .tuple #[.agg #[.bool true, .slice kp1 n kc1, .slice (some ⟨g, 0, none⟩) n n, .slice none 0 0], .agg #[.string o.d, .int .i64 o.p, .int .i64 o.l], .bool true]) ?_ rfl ⟨_, _, _, _, o, ho, rfl, (F3.kept (Kept.refl WF).drew).mono (by omega), (F4.kept (Kept.refl WF).drew).mono (by omega), F5.drew⟩
    exact results_three (p := 6) (q := 7) (u := 8) (ty := 27) (tz := 49) rfl _ _ (w.heap.size + 1 + 1) (w.heap.size + 1 + 1 + 1) 27 49 #[.bool true, .slice kp1 n kc1, .slice (some ⟨g, 0, none⟩) n n, .slice none 0 0] #[.string o.d, .int .i64 o.p, .int .i64 o.l] (0, 0) (0, 0) _ _ rfl F1 Try.underlying27 rfl size27 rfl F2 Try.underlying49 rfl size49
end Go.Proofs.Ytgcfollelefmcaa
