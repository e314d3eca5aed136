/- The walks of node.Put and of the statement's awake: a node's bytes. Conditions: the node may be. -/
import Derived.Test.YtgcfollelefmcaaNL
namespace Go.Proofs.Ytgcfollelefmcaa
open Go.ChangeShapes Go.WideShapes Go.ChangeAt Go.RowKit

/-- The node's own copy, whole. -/
theorem whole_walk {w : World} {l : Bool} {kp : Option Addr} {nk kc : Nat} {vp : Option Addr} {nv vc : Nat} {ip : Option Addr} {ni ic : Nat} {x : Nd} (h : NV w l kp nk kc vp nv vc ip ni ic x) (g : Good x) :
    Calls Try.prog 27 #[.agg #[.bool l, .slice kp nk kc, .slice vp nv vc, .slice ip ni ic]] w fun e w' => ∃ kp' kc' vp' nv' vc' ip' ni' ic', e = .returned (.agg #[.bool l, .slice kp' nk kc', .slice vp' nv' vc', .slice ip' ni' ic']) ∧ Own w' w.heap.size 9 1 kp' nk kc' (kcl x.ks) ∧ Own w' w.heap.size 49 3 vp' nv' vc' (vcl x.vs) ∧ Own w' w.heap.size 3 1 ip' ni' ic' (icl x.is) ∧ Kept w w' := by
  have hnk := h.nk
  have hnv := h.nv
  have hni := h.ni
  have hf := g.few
  cases l with
  | true =>
    obtain ⟨e1, e2⟩ := g.lv h.hl
    obtain rfl : nv = nk := by omega
    refine (whole_leaf h.k h.v (kcl_one _) (vcl_one _) (by omega)).mono ?_
    rintro e w' ⟨kp', kc', vp', rfl, o1, o2, k⟩
    refine ⟨_, _, _, _, _, _, _, _, rfl, o1, o2, ?_, k⟩
    rw [e2]
    exact ⟨World.ownsRow_nil _ _ _ _⟩
  | false =>
    obtain ⟨e1, e2⟩ := g.li h.hl
    obtain rfl : ni = nk + 1 := by omega
    refine (whole_inner h.k h.i (kcl_one _) (icl_one _) (by omega)).mono ?_
    rintro e w' ⟨kp', kc', vp', rfl, o1, o2, k⟩
    refine ⟨_, _, _, _, _, _, _, _, rfl, o1, ?_, o2, k⟩
    rw [e2]
    exact ⟨World.ownsRow_nil _ _ _ _⟩


set_option maxHeartbeats 1000000 in
set_option maxRecDepth 100000 in
theorem put_true {w : World} {kp : Option Addr} {nk kc : Nat} {vp : Option Addr} {nv vc : Nat} {ip : Option Addr} {ni ic : Nat} {x : Nd} (h : NV w true kp nk kc vp nv vc ip ni ic x) (g : Good x) :
    Calls Try.prog 9 #[.agg #[.bool true, .slice kp nk kc, .slice vp nv vc, .slice ip ni ic]] w fun e w' => e = .returned (.string (bs x.put)) ∧ Kept w w' := by
  have HW : Hid (∀ W, Kept w W → Calls Try.prog 27 #[.agg #[.bool true, .slice kp nk kc, .slice vp nv vc, .slice ip ni ic]] W fun e w' => ∃ kp' kc' vp' nv' vc' ip' ni' ic', e = .returned (.agg #[.bool true, .slice kp' nk kc', .slice vp' nv' vc', .slice ip' ni' ic']) ∧ Own w' W.heap.size 9 1 kp' nk kc' (kcl x.ks) ∧ Own w' W.heap.size 49 3 vp' nv' vc' (vcl x.vs) ∧ Own w' W.heap.size 3 1 ip' ni' ic' (icl x.is) ∧ Kept W w') := fun W hW => whole_walk (h.kept hW) g
  have hf : nk ≤ 100 := by have := g.few; have := h.nk; omega
  have G : Hid (Good x) := g
  have HKL : Hid (x.ks.length = nk) := h.nk
  have HLF : Hid (x.leaf = true) := h.hl
  have HN : Hid (∀ W, Calls Try.prog 29 #[.int .i64 (nk : Nat)] W fun e w' => e = .returned (.string (bs (numL nk))) ∧ Kept W w') := fun W => number_walk nk (by omega) W
  have HHD : Hid (x.head = [] ++ numL nk) := by show _ = _; unfold Nd.head; rw [if_pos h.hl, h.nk]; simp
  have K0 : Kept w (w.alloc (.cells #[.bool true, .slice kp nk kc, .slice vp nv vc, .slice ip ni ic] 27)) := (Kept.refl w).alloc _
  have X0 := C4.alloc w 27 (.bool true) (.slice kp nk kc) (.slice vp nv vc) (.slice ip ni ic)
  have S0 := size_alloc w (.cells #[.bool true, .slice kp nk kc, .slice vp nv vc, .slice ip ni ic] 27)
  have HZ : Hid ((numL nk).length ≤ 3) := num_small nk (by omega)
  have HIT : Hid (∀ i, i ≤ nk → (x.items i).length ≤ i * 115) := fun i hi => items_length g i (by have := h.nk; omega)
  have HIL : Hid (∀ i, i < nk → (x.item i).length ≤ 115) := fun i hi => item_length g i (by have := h.nk; omega)
  have HHL : Hid (x.head.length ≤ 6) := head_length g
  clear h g
  go_enter Try.func9, Try.ntmps9
  go_wp2_with (first
    | (go_at_call 27
       (with_reducible refine (HW.out _ K0).mono ?_)
       rintro e v1 ⟨kp1, kc1, vp1, nv1, vc1, ip1, ni1, ic1, rfl, O1, O2, O3, k1⟩
       have X1 := X0.kept k1
       have K1 := K0.trans k1
       rw [S0] at O1 O2 O3
       obtain ⟨⟨g0, f0⟩, ⟨g1, f1⟩, ⟨g2, f2⟩, ⟨g3, f3⟩, hfin⟩ := ready4 X1.out (.bool true) (.slice kp1 nk kc1) (.slice vp1 nv1 vc1) (.slice ip1 ni1 ic1)
       obtain ⟨W1, hW1, V1, K2, hsz, c4⟩ : ∃ W1, Hid (W1 = ((((v1.setCell ⟨w.heap.size, 0, none⟩ (.bool true)).setCell ⟨w.heap.size, 1, none⟩ (.slice kp1 nk kc1)).setCell ⟨w.heap.size, 2, none⟩ (.slice vp1 nv1 vc1)).setCell ⟨w.heap.size, 3, none⟩ (.slice ip1 ni1 ic1))) ∧ NV W1 true kp1 nk kc1 vp1 nv1 vc1 ip1 ni1 ic1 x ∧ Kept w W1 ∧ Hid (W1.heap.size = v1.heap.size) ∧ C4 W1 w.heap.size 27 (.bool true) (.slice kp1 nk kc1) (.slice vp1 nv1 vc1) (.slice ip1 ni1 ic1) := ⟨_, rfl, ⟨HLF.out, (O1.st4 (Nat.lt_succ_self _) _ _ _ _).rw, (O2.st4 (Nat.lt_succ_self _) _ _ _ _).rw, (O3.st4 (Nat.lt_succ_self _) _ _ _ _).rw⟩, K1.st4 (Nat.le_refl _) _ _ _ _, (by show _ = _; rw [size_set, size_set, size_set, size_set]), ⟨hfin⟩⟩
       have HWr : Hid (∀ W L M, St W1 L W → L.length + M.length ≤ 100000 → Calls Try.prog 28 #[.pointer (some ⟨v1.heap.size, 0, none⟩), .string (bs M)] W fun e w' => e = .returned (.tuple #[.int .i64 ((bs M).size : Nat), .nilIface]) ∧ St W1 (L ++ M) w') := (fun W L M hS hM => by rw [← hsz.out]; exact hS.write M hM)
       have HTx : Hid (∀ W L, St W1 L W → Calls Try.prog 31 #[.pointer (some ⟨v1.heap.size, 0, none⟩)] W fun e w' => e = .returned (.string (bs L)) ∧ Kept W1 w') := (fun W L hS => by rw [← hsz.out]; exact hS.text)
       have T1 : St W1 [] (((((v1.setCell ⟨w.heap.size, 0, none⟩ (.bool true)).setCell ⟨w.heap.size, 1, none⟩ (.slice kp1 nk kc1)).setCell ⟨w.heap.size, 2, none⟩ (.slice vp1 nv1 vc1)).setCell ⟨w.heap.size, 3, none⟩ (.slice ip1 ni1 ic1)).alloc (.cells #[.pointer none, .slice none 0 0] 66)) := (by rw [← hW1.out]; exact St.start W1)
       have q1 := (c4.kept T1.k).cs.2.1
       clear HW X0 K0 S0 O1 O2 O3 k1 X1 K1 hfin)
    | (go_at_call 29
       (with_reducible refine (HN.out _).mono ?_)
       rintro e v2 ⟨rfl, k2⟩
       have T2 := T1.kept k2
       clear T1 HN k2 g0 f0 g1 f1 g2 f2 g3 f3)
    | (go_at_call 28
       (with_reducible refine (HWr.out _ _ _ T2 (by have := HZ.out; simp; omega)).mono ?_)
       rintro e v3 ⟨rfl, T3⟩
       obtain ⟨a0, a1, a2, a3⟩ := (c4.kept T3.k).cs
       clear T2
       skip))
  have T9 : St W1 (x.head ++ x.items 0) v3 := by
    have : x.head ++ x.items 0 = [] ++ numL nk := by rw [HHD.out]; simp [Nd.items]
    rw [this]; exact T3
  go_loopg [24] nk (fun gg v wx => ∃ i : Nat, v = .int .i64 (i : Nat) ∧ Hid (gg = nk - i) ∧ i ≤ nk ∧ Hid (St W1 (x.head ++ x.items i) wx))
  case atStart => exact ⟨0, rfl, rfl, Nat.zero_le _, T9⟩
  case round =>
    obtain ⟨i, rfl, hg, hin, T⟩ := hrel
    by_cases h1 : i < nk
    · have h1' : (i : Int) < (nk : Int) := by omega
      obtain ⟨b0, b1, b2, b3⟩ := (c4.kept T.out.k).cs
      have HI : Hid (∀ W, Kept W1 W → Calls Try.prog 30 #[.agg #[.bool true, .slice kp1 nk kc1, .slice vp1 nv1 vc1, .slice ip1 ni1 ic1], .int .i64 (i : Nat)] W fun e w' => e = .returned (.string (bs (x.item i))) ∧ Kept W w') := fun W hW => item_walk (V1.kept hW) G.out i h1
      have hlen : (x.head ++ x.items i).length + (x.item i).length ≤ 100000 := by
        have p1 := HIT.out i hin
        have p2 := HIL.out i h1
        have p3 := HHL.out
        rw [List.length_append]
        omega
      have HLen : Hid ((x.head ++ x.items i).length + (x.item i).length ≤ 100000) := hlen
      clear hlen
      go_wp2_with (first
        | (go_at_call 30
           (with_reducible refine (HI.out _ T.out.k).mono ?_)
           rintro e v5 ⟨rfl, k5⟩
           have T5 := T.out.kept k5)
        | (go_at_call 28
           (with_reducible refine (HWr.out _ _ _ T5 HLen.out).mono ?_)
           rintro e v6 ⟨rfl, T6⟩))
      go_roundg (nk - (i + 1))
      case measure => rw [hg.out]; omega
      case rel => exact ⟨i + 1, by go_num, rfl, by omega, by rw [Nd.items, ← List.append_assoc]; exact T6⟩
    · obtain rfl : i = nk := by omega
      have h1' : ¬ ((i : Int) < (i : Int)) := by omega
      go_wp2_with (first
        | (go_at_call 31
           (with_reducible refine (HTx.out _ _ T.out).mono ?_)
           rintro e v7 ⟨rfl, k7⟩))
      go_ret
      refine ⟨?_, K2.trans k7⟩
      unfold Nd.put
      rw [HKL.out]
      rfl

set_option maxHeartbeats 1000000 in
set_option maxRecDepth 100000 in
theorem put_false {w : World} {kp : Option Addr} {nk kc : Nat} {vp : Option Addr} {nv vc : Nat} {ip : Option Addr} {ni ic : Nat} {x : Nd} (h : NV w false kp nk kc vp nv vc ip ni ic x) (g : Good x) :
    Calls Try.prog 9 #[.agg #[.bool false, .slice kp nk kc, .slice vp nv vc, .slice ip ni ic]] w fun e w' => e = .returned (.string (bs x.put)) ∧ Kept w w' := by
  have HW : Hid (∀ W, Kept w W → Calls Try.prog 27 #[.agg #[.bool false, .slice kp nk kc, .slice vp nv vc, .slice ip ni ic]] W fun e w' => ∃ kp' kc' vp' nv' vc' ip' ni' ic', e = .returned (.agg #[.bool false, .slice kp' nk kc', .slice vp' nv' vc', .slice ip' ni' ic']) ∧ Own w' W.heap.size 9 1 kp' nk kc' (kcl x.ks) ∧ Own w' W.heap.size 49 3 vp' nv' vc' (vcl x.vs) ∧ Own w' W.heap.size 3 1 ip' ni' ic' (icl x.is) ∧ Kept W w') := fun W hW => whole_walk (h.kept hW) g
  have hf : nk ≤ 100 := by have := g.few; have := h.nk; omega
  have G : Hid (Good x) := g
  have HKL : Hid (x.ks.length = nk) := h.nk
  have HLF : Hid (x.leaf = false) := h.hl
  have HN : Hid (∀ W, Calls Try.prog 29 #[.int .i64 (nk : Nat)] W fun e w' => e = .returned (.string (bs (numL nk))) ∧ Kept W w') := fun W => number_walk nk (by omega) W
  obtain ⟨q, hq0, hqs⟩ : ∃ q : Nat, x.is[0]? = some (q : Int) ∧ q ≤ 16383 := by
    have hv2 := (g.li h.hl).1
    obtain ⟨v, hv⟩ : ∃ v, x.is[0]? = some v := ⟨_, List.getElem?_eq_getElem (by omega)⟩
    obtain ⟨q, rfl, hq⟩ := g.ik v (List.mem_of_getElem? hv)
    exact ⟨q, hv, hq⟩
  have HQ0 : Hid (x.is[0]? = some (q : Int)) := hq0
  have HHD : Hid (x.head = [] ++ numL nk ++ numL q) := by show _ = _; unfold Nd.head; rw [if_neg (by rw [h.hl]; decide), h.nk, hq0]; simp
  have HQ : Hid (∀ W, Calls Try.prog 29 #[.int .i64 (q : Nat)] W fun e w' => e = .returned (.string (bs (numL q))) ∧ Kept W w') := fun W => number_walk q (by omega) W
  have HZ2 : Hid ((numL q).length ≤ 3) := num_small q (by omega)
  have HIL2 : Hid (x.is.length = nk + 1) := by show _ = _; have := (g.li h.hl).1; have := h.nk; omega
  clear hq0
  have K0 : Kept w (w.alloc (.cells #[.bool false, .slice kp nk kc, .slice vp nv vc, .slice ip ni ic] 27)) := (Kept.refl w).alloc _
  have X0 := C4.alloc w 27 (.bool false) (.slice kp nk kc) (.slice vp nv vc) (.slice ip ni ic)
  have S0 := size_alloc w (.cells #[.bool false, .slice kp nk kc, .slice vp nv vc, .slice ip ni ic] 27)
  have HZ : Hid ((numL nk).length ≤ 3) := num_small nk (by omega)
  have HIT : Hid (∀ i, i ≤ nk → (x.items i).length ≤ i * 115) := fun i hi => items_length g i (by have := h.nk; omega)
  have HIL : Hid (∀ i, i < nk → (x.item i).length ≤ 115) := fun i hi => item_length g i (by have := h.nk; omega)
  have HHL : Hid (x.head.length ≤ 6) := head_length g
  clear h g
  go_enter Try.func9, Try.ntmps9
  go_wp2_with (first
    | (go_at_call 27
       (with_reducible refine (HW.out _ K0).mono ?_)
       rintro e v1 ⟨kp1, kc1, vp1, nv1, vc1, ip1, ni1, ic1, rfl, O1, O2, O3, k1⟩
       have X1 := X0.kept k1
       have K1 := K0.trans k1
       rw [S0] at O1 O2 O3
       obtain ⟨⟨g0, f0⟩, ⟨g1, f1⟩, ⟨g2, f2⟩, ⟨g3, f3⟩, hfin⟩ := ready4 X1.out (.bool false) (.slice kp1 nk kc1) (.slice vp1 nv1 vc1) (.slice ip1 ni1 ic1)
       obtain ⟨W1, hW1, V1, K2, hsz, c4⟩ : ∃ W1, Hid (W1 = ((((v1.setCell ⟨w.heap.size, 0, none⟩ (.bool false)).setCell ⟨w.heap.size, 1, none⟩ (.slice kp1 nk kc1)).setCell ⟨w.heap.size, 2, none⟩ (.slice vp1 nv1 vc1)).setCell ⟨w.heap.size, 3, none⟩ (.slice ip1 ni1 ic1))) ∧ NV W1 false kp1 nk kc1 vp1 nv1 vc1 ip1 ni1 ic1 x ∧ Kept w W1 ∧ Hid (W1.heap.size = v1.heap.size) ∧ C4 W1 w.heap.size 27 (.bool false) (.slice kp1 nk kc1) (.slice vp1 nv1 vc1) (.slice ip1 ni1 ic1) := ⟨_, rfl, ⟨HLF.out, (O1.st4 (Nat.lt_succ_self _) _ _ _ _).rw, (O2.st4 (Nat.lt_succ_self _) _ _ _ _).rw, (O3.st4 (Nat.lt_succ_self _) _ _ _ _).rw⟩, K1.st4 (Nat.le_refl _) _ _ _ _, (by show _ = _; rw [size_set, size_set, size_set, size_set]), ⟨hfin⟩⟩
       have HWr : Hid (∀ W L M, St W1 L W → L.length + M.length ≤ 100000 → Calls Try.prog 28 #[.pointer (some ⟨v1.heap.size, 0, none⟩), .string (bs M)] W fun e w' => e = .returned (.tuple #[.int .i64 ((bs M).size : Nat), .nilIface]) ∧ St W1 (L ++ M) w') := (fun W L M hS hM => by rw [← hsz.out]; exact hS.write M hM)
       have HTx : Hid (∀ W L, St W1 L W → Calls Try.prog 31 #[.pointer (some ⟨v1.heap.size, 0, none⟩)] W fun e w' => e = .returned (.string (bs L)) ∧ Kept W1 w') := (fun W L hS => by rw [← hsz.out]; exact hS.text)
       have T1 : St W1 [] (((((v1.setCell ⟨w.heap.size, 0, none⟩ (.bool false)).setCell ⟨w.heap.size, 1, none⟩ (.slice kp1 nk kc1)).setCell ⟨w.heap.size, 2, none⟩ (.slice vp1 nv1 vc1)).setCell ⟨w.heap.size, 3, none⟩ (.slice ip1 ni1 ic1)).alloc (.cells #[.pointer none, .slice none 0 0] 66)) := (by rw [← hW1.out]; exact St.start W1)
       have q1 := (c4.kept T1.k).cs.2.1
       clear HW X0 K0 S0 O1 O2 O3 k1 X1 K1 hfin)
    | (go_at_call 29
       (with_reducible refine (HN.out _).mono ?_)
       rintro e v2 ⟨rfl, k2⟩
       have T2 := T1.kept k2
       clear T1 HN k2 g0 f0 g1 f1 g2 f2 g3 f3)
    | (go_at_call 28
       (with_reducible refine (HWr.out _ _ _ T2 (by have := HZ.out; simp; omega)).mono ?_)
       rintro e v3 ⟨rfl, T3⟩
       obtain ⟨a0, a1, a2, a3⟩ := (c4.kept T3.k).cs
       clear T2
       have hni := V1.ni
       rw [HIL2.out] at hni
       subst hni
       obtain ⟨ib, io, rfl, hic⟩ := V1.i.some (Nat.succ_pos _)
       have hq1 := T3.k.cell (hic 0 _ (icl_at HQ0.out))
       rw [Nat.add_zero] at hq1
       clear hic)
    | (go_at_call 29
       (with_reducible refine (HQ.out _).mono ?_)
       rintro e v4 ⟨rfl, k4⟩
       have T4 := T3.kept k4
       clear T3 HQ k4)
    | (go_at_call 28
       (with_reducible refine (HWr.out _ _ _ T4 (by have := HZ.out; have := HZ2.out; simp; omega)).mono ?_)
       rintro e v5 ⟨rfl, T5⟩
       obtain ⟨b0, b1, b2, b3⟩ := (c4.kept T5.k).cs
       clear T4))
  have T9 : St W1 (x.head ++ x.items 0) v5 := by
    have : x.head ++ x.items 0 = [] ++ numL nk ++ numL q := by rw [HHD.out]; simp [Nd.items]
    rw [this]; exact T5
  go_loopg [24] nk (fun gg v wx => ∃ i : Nat, v = .int .i64 (i : Nat) ∧ Hid (gg = nk - i) ∧ i ≤ nk ∧ Hid (St W1 (x.head ++ x.items i) wx))
  case atStart => exact ⟨0, rfl, rfl, Nat.zero_le _, T9⟩
  case round =>
    obtain ⟨i, rfl, hg, hin, T⟩ := hrel
    by_cases h1 : i < nk
    · have h1' : (i : Int) < (nk : Int) := by omega
      obtain ⟨b0, b1, b2, b3⟩ := (c4.kept T.out.k).cs
      have HI : Hid (∀ W, Kept W1 W → Calls Try.prog 30 #[.agg #[.bool false, .slice kp1 nk kc1, .slice vp1 nv1 vc1, .slice (some ⟨ib, io, none⟩) (nk + 1) ic1], .int .i64 (i : Nat)] W fun e w' => e = .returned (.string (bs (x.item i))) ∧ Kept W w') := fun W hW => item_walk (V1.kept hW) G.out i h1
      have hlen : (x.head ++ x.items i).length + (x.item i).length ≤ 100000 := by
        have p1 := HIT.out i hin
        have p2 := HIL.out i h1
        have p3 := HHL.out
        rw [List.length_append]
        omega
      have HLen : Hid ((x.head ++ x.items i).length + (x.item i).length ≤ 100000) := hlen
      clear hlen
      go_wp2_with (first
        | (go_at_call 30
           (with_reducible refine (HI.out _ T.out.k).mono ?_)
           rintro e v5 ⟨rfl, k5⟩
           have T5 := T.out.kept k5)
        | (go_at_call 28
           (with_reducible refine (HWr.out _ _ _ T5 HLen.out).mono ?_)
           rintro e v6 ⟨rfl, T6⟩))
      go_roundg (nk - (i + 1))
      case measure => rw [hg.out]; omega
      case rel => exact ⟨i + 1, by go_num, rfl, by omega, by rw [Nd.items, ← List.append_assoc]; exact T6⟩
    · obtain rfl : i = nk := by omega
      have h1' : ¬ ((i : Int) < (i : Int)) := by omega
      go_wp2_with (first
        | (go_at_call 31
           (with_reducible refine (HTx.out _ _ T.out).mono ?_)
           rintro e v7 ⟨rfl, k7⟩))
      go_ret
      refine ⟨?_, K2.trans k7⟩
      unfold Nd.put
      rw [HKL.out]
      rfl

theorem put_walk {w : World} {l : Bool} {kp : Option Addr} {nk kc : Nat} {vp : Option Addr} {nv vc : Nat} {ip : Option Addr} {ni ic : Nat} {x : Nd} (h : NV w l kp nk kc vp nv vc ip ni ic x) (g : Good x) :
    Calls Try.prog 9 #[.agg #[.bool l, .slice kp nk kc, .slice vp nv vc, .slice ip ni ic]] w fun e w' => e = .returned (.string (bs x.put)) ∧ Kept w w' := by
  cases l with
  | true => exact put_true h g
  | false => exact put_false h g
end Go.Proofs.Ytgcfollelefmcaa
