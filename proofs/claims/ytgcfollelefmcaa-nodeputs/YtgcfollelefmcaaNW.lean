/- The walk of node.read over an inner node's bytes, and over whatever node's. Conditions: the node may be. -/
import Derived.Test.YtgcfollelefmcaaNV
namespace Go.Proofs.Ytgcfollelefmcaa
open Go.ChangeShapes Go.WideShapes Go.ChangeAt Go.RowKit

set_option maxHeartbeats 4000000 in
set_option maxRecDepth 100000 in
theorem read_false {w : World} {b : Nat} {x : Nd} (hr : Rd w b (bs x.put) 0) (g : Good x) (hl : x.leaf = false) (h60 : x.ks.length ≤ 60) :
    Calls Try.prog 32 #[.pointer (some ⟨b, 0, none⟩), .bool false] w fun e w' => ∃ kp nk kc vp nv vc ip ni ic, e = .returned (.tuple #[.agg #[.bool false, .slice kp nk kc, .slice vp nv vc, .slice ip ni ic], .int .i64 0]) ∧ NV w' false kp nk kc vp nv vc ip ni ic x ∧ Og b w w' := by
  obtain ⟨i9, hi9, hz90, hz91, hz92⟩ := info_parts info9
  obtain ⟨i3, hi3, hz30, hz31, hz32⟩ := info_parts info3
  have hf := h60
  have hbl := hr.lt
  obtain ⟨nk, hnk⟩ : ∃ nk, x.ks.length = nk := ⟨_, rfl⟩
  rw [hnk] at hf
  have hvl : x.is.length = nk + 1 := by rw [(g.li hl).1, hnk]
  obtain ⟨q0, hq0⟩ : ∃ v, x.is[0]? = some v := ⟨_, List.getElem?_eq_getElem (by omega)⟩
  obtain ⟨q, rfl, hq⟩ := g.ik q0 (List.mem_of_getElem? hq0)
  have HQ0 : Hid (x.is[0]? = some (q : Int)) := hq0
  have zq := num_small q (by omega)
  have uq : IntKind.i64.wrap (q : Int) = (q : Int) := by rw [IntKind.wrap_i64]; omega
  have hput : x.put = numL nk ++ (numL q ++ x.tail 0 nk) := by
    have a := tail_items x nk 0
    rw [Nat.zero_add] at a
    unfold Nd.put Nd.head
    rw [hnk, if_neg (by rw [hl]; decide), hq0, ← a]
    simp [Nd.items]
  rw [hput] at hr
  have htl := tail_length g nk 0 (by omega)
  have HTL : Hid (∀ k i, i + k ≤ nk → (x.tail i k).length ≤ k * 115) := fun k i h => tail_length g k i (by omega)
  have HKL : Hid (x.ks.length = nk) := hnk
  have HVL : Hid (x.is.length = nk + 1) := hvl
  have G : Hid (Good x) := g
  have HLF : Hid (x.leaf = false) := hl
  obtain ⟨oA, hoA⟩ : ∃ o : Obj, o = .cells #[.bool false, .slice none 0 0, .slice none 0 0, .slice none 0 0] 27 := ⟨_, rfl⟩
  obtain ⟨oB, hoB⟩ : ∃ o : Obj, o = .cells #[.bool false, .slice none 0 0, .slice none 0 0, .slice none 0 0] 27 := ⟨_, rfl⟩
  have K0 : Kept w ((w.alloc oA).alloc oB) := ((Kept.refl w).alloc _).alloc _
  have s0 : RS w ((w.alloc oA).alloc oB) b false none 0 0 [] none 0 0 [] none 0 0 [] (numL nk ++ (numL q ++ x.tail 0 nk)) := by
    refine ⟨?_, ?_, ⟨World.ownsRow_nil _ _ _ _⟩, ⟨World.ownsRow_nil _ _ _ _⟩, ⟨World.ownsRow_nil _ _ _ _⟩, K0.rd hr, K0.og b, hbl⟩
    · subst hoA; exact (C4.alloc w 27 _ _ _ _).kept ((Kept.refl _).alloc _)
    · subst hoB; rw [← size_alloc w oA]; exact C4.alloc _ 27 _ _ _ _
  have A1 := rnum2 nk (by omega) (numL q ++ x.tail 0 nk) (by rw [List.length_append]; omega) 237 (by omega) s0.r
  have A1 : Calls Try.prog 60 #[.pointer (some ⟨b, 0, none⟩), .int .u64 237] ((w.alloc oA).alloc oB) fun e w' => e = .returned (.int .u64 (nk : Nat)) ∧ Rd w' b (bs (numL q ++ x.tail 0 nk)) 0 ∧ Og b ((w.alloc oA).alloc oB) w' := A1
  have HAQ : Hid (∀ W, Rd W b (bs (numL q ++ x.tail 0 nk)) 0 → Calls Try.prog 60 #[.pointer (some ⟨b, 0, none⟩), .int .u64 16383] W fun e w' => e = .returned (.int .u64 (q : Nat)) ∧ Rd w' b (bs (x.tail 0 nk)) 0 ∧ Og b W w') := fun W h => rnum2 q (by omega) (x.tail 0 nk) (by omega) 16383 (by omega) h
  subst hoA; subst hoB
  clear hr g hput htl K0 hnk hvl hl hq0 zq
  go_enter Try.func32, Try.ntmps32
  go_wp2_with (first
    | (go_at_call 60
       (with_reducible refine A1.mono ?_)
       rintro e v1 ⟨rfl, r1, o1⟩
       have s1 := s0.call o1 r1
       clear A1 s0 r1 o1))
  have s' := s1.kept (Kept.refl v1).drew
  have AQ := HAQ.out _ s'.r
  obtain ⟨c0, c1, c2, c3⟩ := s'.X.cs
  clear HAQ s1
  go_region_law (first
    | (go_simp
       go_at_call 60
       (with_reducible refine AQ.mono ?_)
       rintro e v5 ⟨rfl, r5, o5⟩
       have s5 := s'.call o5 r5
       obtain ⟨d0, d1, d2, d3⟩ := s5.X.cs
       have d3' := fun o => (s5.X.kept ((Kept.refl v5).alloc o)).cs.2.2.2
       have sA := s5.kept ((Kept.refl v5).alloc (.cells #[.int .i64 (q : Nat)] 3))
       have hn1 := one_cellA v5 (.int .i64 (q : Nat)) 3
       have h1one : ∀ u ∈ [Value.int .i64 (q : Nat)], u.oneCell' = true := one_one .i64 _
       have hBE : w.heap.size + 1 + 1 ≤ (v5.alloc (.cells #[.int .i64 (q : Nat)] 3)).heap.size := (by have := sA.X.lt; omega)
       clear AQ
       go_wp2_with fail)
    | (refine step_append_lies _ (by rfl) _ _ _ (by rfl) (w.heap.size + 1 + 1) 3 i3 _ 1 8 Try.underlying25 hi3 hz30 hz31 hz32 (by rfl) (by decide) (.slice none 0 0) 0 (icl []) (by rfl) sA.I.out ⟨v5.heap.size, 0, none⟩ 1 1 [.int .i64 (q : Nat)] (by rfl) (by rfl) hn1 h1one (by decide) (by decide) (by decide) hBE _ rfl ?_
       intro g6 cap6 w6 ho6 hg6 _ _
       rw [ob] at hg6
       obtain ⟨X6, s6⟩ := sA.putI hg6 (q := some ⟨g6, 0, none⟩) (m := 1) (c := cap6) (zs := x.is.take (0 + 1)) ⟨by rw [icl_more HQ0.out]; exact ho6⟩
       have c66 := X6.cs.2.2.2
       have f66 := X6.fz 3))
  all_goals
   clear X6 c66 f66 hg6 ho6 sA hn1 h1one hBE s5 d0 d1 d2 d3 d3' o5 r5 s' c0 c1 c2 c3
   generalize hW6 : w6.setCell ⟨w.heap.size + 1, 3, none⟩ (.slice (some ⟨g6, 0, none⟩) 1 cap6) = W6 at *
   clear hW6
   go_wp2
   go_loopg [23] nk (fun gg v wx => ∃ (i : Nat) (kp : Option Addr) (kc : Nat) (ip : Option Addr) (ic : Nat), v = .int .u64 (i : Nat) ∧ Hid (gg = nk - i) ∧ i ≤ nk ∧ RS w wx b false kp i kc (x.ks.take i) none 0 0 [] ip (i + 1) ic (x.is.take (i + 1)) (x.tail i (nk - i)))
   case atStart => exact ⟨0, _, _, _, _, rfl, rfl, Nat.zero_le _, s6⟩
   case round =>
     obtain ⟨i, kp, kc, ip, ic, rfl, hg, hin, s⟩ := hrel
     clear s6
     by_cases h1 : i < nk
     · have h1' : (i : Int) < (nk : Int) := by omega
       obtain ⟨k, hk⟩ : ∃ k, x.ks[i]? = some k := ⟨_, List.getElem?_eq_getElem (by rw [HKL.out]; exact h1)⟩
       obtain ⟨v, hv⟩ : ∃ v, x.is[i + 1]? = some v := ⟨_, List.getElem?_eq_getElem (by rw [HVL.out]; omega)⟩
       obtain ⟨y, rfl, hy⟩ := G.out.ik v (List.mem_of_getElem? hv)
       have uy : IntKind.i64.wrap (y : Int) = (y : Int) := by rw [IntKind.wrap_i64]; omega
       have HK : Hid (x.ks[i]? = some k) := hk
       have HV : Hid (x.is[i + 1]? = some (y : Int)) := hv
       have hks := G.out.small k (List.mem_of_getElem? hk)
       have et : x.tail i (nk - i) = keyN k ++ (numL y ++ x.tail (i + 1) (nk - (i + 1))) := by
         rw [show nk - i = (nk - (i + 1)) + 1 by omega, Nd.tail]
         unfold Nd.item
         rw [hk, hv, if_neg (by rw [HLF.out]; decide), List.append_assoc]
         rfl
       have z1 := HTL.out (nk - (i + 1)) (i + 1) (by omega)
       have z2 := num_small y (by omega)
       rw [et] at s
       have s' := s.kept (Kept.refl wr).drew
       have A2 := rt64 k hks (numL y ++ x.tail (i + 1) (nk - (i + 1))) (by rw [List.length_append]; omega) s'.r
       have HA3 : Hid (∀ W, Rd W b (bs (numL y ++ x.tail (i + 1) (nk - (i + 1)))) 0 → Calls Try.prog 60 #[.pointer (some ⟨b, 0, none⟩), .int .u64 16383] W fun e w' => e = .returned (.int .u64 (y : Nat)) ∧ Rd w' b (bs (x.tail (i + 1) (nk - (i + 1)))) 0 ∧ Og b W w') := fun W h => rnum2 y (by omega) _ (by omega) 16383 (by omega) h
       obtain ⟨c0, c1, c2, c3⟩ := s'.X.cs
       clear hk hv et z1 z2 hks
       go_wp2_with fail
       go_region_law (first
         | (go_simp
            go_at_call 61
            (with_reducible refine A2.mono ?_)
            rintro e v1 ⟨rfl, r1, o1⟩
            have s1 := s'.call o1 r1
            obtain ⟨d0, d1, d2, d3⟩ := s1.X.cs
            have d1' := fun o => (s1.X.kept ((Kept.refl v1).alloc o)).cs.2.1
            have sA := s1.kept ((Kept.refl v1).alloc (.cells #[.string k] 9))
            have hn1 := one_cellA v1 (.string k) 9
            have h1one : ∀ u ∈ [Value.string k], u.oneCell' = true := (by intro u hu; simp at hu; subst hu; rfl)
            have hBE : w.heap.size + 1 + 1 ≤ (v1.alloc (.cells #[.string k] 9)).heap.size := (by have := sA.X.lt; omega)
            clear A2
            go_wp2_with fail)
         | (refine step_append_lies _ (by rfl) _ _ _ (by rfl) (w.heap.size + 1 + 1) 9 i9 _ 1 16 Try.underlying23 hi9 hz90 hz91 hz92 (by rfl) (by decide) (.slice kp i kc) i (kcl (x.ks.take i)) (by rfl) sA.K.out ⟨v1.heap.size, 0, none⟩ 1 1 [.string k] (by rfl) (by rfl) hn1 h1one (by decide) (by unfold maxLen; omega) (by omega) hBE _ rfl ?_
            intro g3 cap3 w3 ho3 hg3 _ _
            rw [ob] at hg3
            obtain ⟨X3, s3⟩ := sA.putK hg3 (q := some ⟨g3, 0, none⟩) (m := i + 1) (c := cap3) (zs := x.ks.take (i + 1)) ⟨by rw [kcl_more HK.out]; exact ho3⟩
            have c33 := X3.cs.2.1
            have f33 := X3.fz 1))
       all_goals
         clear X3 c33 f33 hg3 ho3 sA hn1 h1one hBE s1 d0 d1 d2 d3 d1' o1 r1 s' c0 c1 c2 c3 s
         generalize hW3 : w3.setCell ⟨w.heap.size + 1, 1, none⟩ (.slice (some ⟨g3, 0, none⟩) (i + 1) cap3) = W3 at *
         clear hW3
         have s' := s3.kept (Kept.refl W3).drew
         clear s3
         have A3 := HA3.out _ s'.r
         obtain ⟨c0, c1, c2, c3⟩ := s'.X.cs
         clear HA3
         go_wp2_with fail
         go_region_law (first
           | (go_simp
              go_at_call 60
              (with_reducible refine A3.mono ?_)
              rintro e v5 ⟨rfl, r5, o5⟩
              have s5 := s'.call o5 r5
              obtain ⟨d0, d1, d2, d3⟩ := s5.X.cs
              have d3' := fun o => (s5.X.kept ((Kept.refl v5).alloc o)).cs.2.2.2
              have sA := s5.kept ((Kept.refl v5).alloc (.cells #[.int .i64 (y : Nat)] 3))
              have hn1 := one_cellA v5 (.int .i64 (y : Nat)) 3
              have h1one : ∀ u ∈ [Value.int .i64 (y : Nat)], u.oneCell' = true := one_one .i64 _
              have hBE : w.heap.size + 1 + 1 ≤ (v5.alloc (.cells #[.int .i64 (y : Nat)] 3)).heap.size := (by have := sA.X.lt; omega)
              clear A3
              go_wp2_with fail)
           | (refine step_append_lies _ (by rfl) _ _ _ (by rfl) (w.heap.size + 1 + 1) 3 i3 _ 1 8 Try.underlying25 hi3 hz30 hz31 hz32 (by rfl) (by decide) (.slice ip (i + 1) ic) (i + 1) (icl (x.is.take (i + 1))) (by rfl) sA.I.out ⟨v5.heap.size, 0, none⟩ 1 1 [.int .i64 (y : Nat)] (by rfl) (by rfl) hn1 h1one (by decide) (by unfold maxLen; omega) (by omega) hBE _ rfl ?_
              intro g6 cap6 w6 ho6 hg6 _ _
              rw [ob] at hg6
              obtain ⟨X6, s6⟩ := sA.putI hg6 (q := some ⟨g6, 0, none⟩) (m := i + 1 + 1) (c := cap6) (zs := x.is.take (i + 1 + 1)) ⟨by rw [icl_more HV.out]; exact ho6⟩
              have c66 := X6.cs.2.2.2
              have f66 := X6.fz 3))
         all_goals
           clear X6 c66 f66 hg6 ho6 sA hn1 h1one hBE s5 d0 d1 d2 d3 d3' o5 r5 s' c0 c1 c2 c3
           generalize hW6 : w6.setCell ⟨w.heap.size + 1, 3, none⟩ (.slice (some ⟨g6, 0, none⟩) (i + 1 + 1) cap6) = W6 at *
           clear hW6
           go_wp2
           go_roundg (nk - (i + 1))
           case measure => rw [hg.out]; omega
           case rel => exact ⟨i + 1, _, cap3, _, cap6, by go_num, rfl, by omega, s6⟩
     · obtain rfl : nk = i := by omega
       have h1' : ¬ ((nk : Int) < (nk : Int)) := by omega
       rw [Nat.sub_self, List.take_of_length_le (by rw [HKL.out]; exact Nat.le_refl _), List.take_of_length_le (by rw [HVL.out]; exact Nat.le_refl _)] at s
       have s' := s.kept (Kept.refl wr).drew
       have AE := end_walk (x := 0) s'.r
       obtain ⟨c0, c1, c2, c3⟩ := s'.X.cs
       obtain ⟨⟨g0, f0⟩, ⟨g1, f1⟩, ⟨g2, f2⟩, ⟨g3, f3⟩, hfin⟩ := ready4 s.R.out (.bool false) (.slice kp nk kc) (.slice none 0 0) (.slice ip (nk + 1) ic)
       go_wp2_with fail
       go_region_with (first
         | (go_at_call 63
            (with_reducible refine AE.mono ?_)
            rintro e v8 ⟨rfl, hv8⟩
            rw [hv8]
            clear hv8))
       all_goals
         have q1 := (s.K.mono (Nat.le_succ _)).st4 (b := w.heap.size) (Nat.lt_succ_self _) (.bool false) (.slice kp nk kc) (.slice none 0 0) (.slice ip (nk + 1) ic)
         have q2 := (s.I.mono (Nat.le_succ _)).st4 (b := w.heap.size) (Nat.lt_succ_self _) (.bool false) (.slice kp nk kc) (.slice none 0 0) (.slice ip (nk + 1) ic)
         have q3 : Og b w ((((wr.setCell ⟨w.heap.size, 0, none⟩ (.bool false)).setCell ⟨w.heap.size, 1, none⟩ (.slice kp nk kc)).setCell ⟨w.heap.size, 2, none⟩ (.slice none 0 0)).setCell ⟨w.heap.size, 3, none⟩ (.slice ip (nk + 1) ic)) := by
           have os := s.o.out
           refine ⟨os.os, os.tape, os.output, by rw [size_set, size_set, size_set, size_set]; exact os.size, fun j hj hne => ?_⟩
           rw [others4 wr (by omega) _ _ _ _]
           exact os.block j hj hne
         generalize hW : ((((wr.setCell ⟨w.heap.size, 0, none⟩ (.bool false)).setCell ⟨w.heap.size, 1, none⟩ (.slice kp nk kc)).setCell ⟨w.heap.size, 2, none⟩ (.slice none 0 0)).setCell ⟨w.heap.size, 3, none⟩ (.slice ip (nk + 1) ic)) = WF at hfin q1 q2 q3 ⊢
         go_wp2
         refine bodyPost_ret (v := .tuple #[.agg #[.bool false, .slice kp nk kc, .slice none 0 0, .slice ip (nk + 1) ic], .int .i64 0]) ?_ rfl ⟨_, _, _, _, _, _, _, _, _, rfl, ⟨HLF.out, ((q1.kept (Kept.refl WF).drew)).rw, ?_, ((q2.kept (Kept.refl WF).drew)).rw⟩, q3.trans ((Kept.refl WF).drew.og b)⟩
         · exact results_two (p := 4) (u := 5) (ty := 27) rfl _ _ w.heap.size 27 #[.bool false, .slice kp nk kc, .slice none 0 0, .slice ip (nk + 1) ic] (0, 0) _ rfl hfin Try.underlying27 rfl size27
         · rw [(G.out.li HLF.out).2]
           exact ⟨rfl, Nat.le_refl _, Nat.zero_le _, .inl ⟨rfl, rfl⟩⟩

theorem read_walk {w : World} {b : Nat} {x : Nd} (hr : Rd w b (bs x.put) 0) (g : Good x) (h60 : x.ks.length ≤ 60) (l : Bool) (hl : x.leaf = l) :
    Calls Try.prog 32 #[.pointer (some ⟨b, 0, none⟩), .bool l] w fun e w' => ∃ kp nk kc vp nv vc ip ni ic, e = .returned (.tuple #[.agg #[.bool l, .slice kp nk kc, .slice vp nv vc, .slice ip ni ic], .int .i64 0]) ∧ NV w' l kp nk kc vp nv vc ip ni ic x ∧ Og b w w' := by
  cases l with
  | true => exact read_true hr g hl h60
  | false => exact read_false hr g hl h60
end Go.Proofs.Ytgcfollelefmcaa
