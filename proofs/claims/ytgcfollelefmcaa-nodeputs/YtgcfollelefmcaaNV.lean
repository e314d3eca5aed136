/- The walk of node.read over a node's bytes: the node. Conditions: the node may be. -/
import Derived.Test.YtgcfollelefmcaaNU
namespace Go.Proofs.Ytgcfollelefmcaa
open Go.ChangeShapes Go.WideShapes Go.ChangeAt Go.RowKit

/-- The items from one place on. -/
def Nd.tail (x : Nd) : Nat → Nat → List Nat
  | _, 0 => []
  | i, k + 1 => x.item i ++ x.tail (i + 1) k
theorem tail_items (x : Nd) : ∀ k i, x.items i ++ x.tail i k = x.items (i + k)
  | 0, i => by simp [Nd.tail]
  | k + 1, i => by
    rw [Nd.tail, ← List.append_assoc, show x.items i ++ x.item i = x.items (i + 1) from rfl, tail_items x k (i + 1)]
    congr 1; omega
theorem tail_length {x : Nd} (g : Good x) : ∀ k i, i + k ≤ x.ks.length → (x.tail i k).length ≤ k * 115
  | 0, i, _ => by simp [Nd.tail]
  | k + 1, i, h => by
    have a := tail_length g k (i + 1) (by omega)
    have b := item_length g i (by omega)
    rw [Nd.tail, List.length_append]
    omega
theorem one_cellA (w : World) (u : Value) (t : TypeId) : ∀ (j : Nat) (v : Value), [u][j]? = some v → (w.alloc (.cells #[u] t)).cell? ((⟨w.heap.size, 0, none⟩ : Addr).add j) = some v := one_cell w u t
theorem three_cellsA (w : World) (a b c : Value) (t : TypeId) : ∀ (j : Nat) (v : Value), [a, b, c][j]? = some v → (w.alloc (.cells #[a, b, c] t)).cell? ((⟨w.heap.size, 0, none⟩ : Addr).add j) = some v := three_cells w a b c t
theorem kcl_more {ks : List ByteArray} {i : Nat} {k : ByteArray} (h : ks[i]? = some k) : kcl (ks.take (i + 1)) = kcl (ks.take i) ++ [.string k] := by
  rw [List.take_add_one, h, kcl_append]; rfl
theorem icl_more {is : List Int} {i : Nat} {k : Int} (h : is[i]? = some k) : icl (is.take (i + 1)) = icl (is.take i) ++ [.int .i64 k] := by
  rw [List.take_add_one, h, icl_append]; rfl

/-- While a node is read: the world at the call, the reader's block, the node's rows so far, what is left. -/
structure RS (w wx : World) (b : Nat) (l : Bool) (kp : Option Addr) (nk kc : Nat) (ks : List ByteArray) (vp : Option Addr) (nv vc : Nat) (vs : List Vl) (ip : Option Addr) (ni ic : Nat) (is : List Int) (rest : List Nat) : Prop where
  R : C4 wx w.heap.size 27 (.bool false) (.slice none 0 0) (.slice none 0 0) (.slice none 0 0)
  X : C4 wx (w.heap.size + 1) 27 (.bool l) (.slice kp nk kc) (.slice vp nv vc) (.slice ip ni ic)
  K : Own wx (w.heap.size + 1 + 1) 9 1 kp nk kc (kcl ks)
  V : Own wx (w.heap.size + 1 + 1) 49 3 vp nv vc (vcl vs)
  I : Own wx (w.heap.size + 1 + 1) 3 1 ip ni ic (icl is)
  r : Rd wx b (bs rest) 0
  o : Og b w wx
  hb : b < w.heap.size

theorem RS.call {w wx W : World} {b : Nat} {l : Bool} {kp : Option Addr} {nk kc : Nat} {ks : List ByteArray} {vp : Option Addr} {nv vc : Nat} {vs : List Vl} {ip : Option Addr} {ni ic : Nat} {is : List Int} {rest rest' : List Nat} (s : RS w wx b l kp nk kc ks vp nv vc vs ip ni ic is rest) (o : Og b wx W) (r : Rd W b (bs rest') 0) : RS w W b l kp nk kc ks vp nv vc vs ip ni ic is rest' :=
  have h := s.hb
  ⟨s.R.og o (by omega), s.X.og o (by omega), o.own s.K (by omega), o.own s.V (by omega), o.own s.I (by omega), r, s.o.trans o, s.hb⟩
theorem RS.kept {w wx W : World} {b : Nat} {l : Bool} {kp : Option Addr} {nk kc : Nat} {ks : List ByteArray} {vp : Option Addr} {nv vc : Nat} {vs : List Vl} {ip : Option Addr} {ni ic : Nat} {is : List Int} {rest : List Nat} (s : RS w wx b l kp nk kc ks vp nv vc vs ip ni ic is rest) (k : Kept wx W) : RS w W b l kp nk kc ks vp nv vc vs ip ni ic is rest := s.call (k.og b) (k.rd s.r)
theorem results_two {P : Program} {fn : Func} {p u : Tmp} {ty : TypeId} (h : fn.results = #[.cell p ty, .tmp u]) (tmps : Array Value) (w : World) (g : Nat) (t : TypeId) (cs : Array Value) (fr : Nat × Nat) (d : TypeDesc)
    (hp : tmps.getD p undef = .pointer (some ⟨g, 0, none⟩)) (hg : w.heap[g]? = some (.cells cs t fr))
    (hu : P.underlying ty = some d) (hd : (match d with | .struct _ | .array _ _ => true | _ => false) = true) (hi : (P.info? ty).map (·.size) = some cs.size) :
    (results fn tmps).run P w = .ok (.tuple #[.agg cs, tmps.getD u undef]) w := by
  rw [results_cell_tmp h, hp]
  simp [asAddr, run_loadVar_row w g t ty cs fr d hg hu hd hi]
theorem Rd.far {w : World} {b : Nat} {s : ByteArray} {e : Int} (k : Rd w b s e) (a : Addr) (v : Value) (h : b ≠ a.block) : Rd (w.setCell a v) b s e := ⟨(heap_setCell_other w a b v h).trans k.out⟩

theorem RS.putK {w wx W : World} {b : Nat} {l : Bool} {kp : Option Addr} {nk kc : Nat} {ks : List ByteArray} {vp : Option Addr} {nv vc : Nat} {vs : List Vl} {ip : Option Addr} {ni ic : Nat} {is : List Int} {rest : List Nat} (s : RS w wx b l kp nk kc ks vp nv vc vs ip ni ic is rest) (g : wx.grownBy W (blk kp)) {q : Option Addr} {m c : Nat} {zs : List ByteArray} (o : Own W (w.heap.size + 1 + 1) 9 1 q m c (kcl zs)) :
    C4 W (w.heap.size + 1) 27 (.bool l) (.slice kp nk kc) (.slice vp nv vc) (.slice ip ni ic) ∧ RS w (W.setCell ⟨w.heap.size + 1, 1, none⟩ (.slice q m c)) b l q m c zs vp nv vc vs ip ni ic is rest := by
  have hb := s.hb
  have x1 := s.X.grown g (s.X.own_ne s.K (by decide))
  have own : some b ≠ blk kp := s.K.blk_ne (.inl (by omega))
  have own2 : some w.heap.size ≠ blk kp := s.K.blk_ne (.inl (by omega))
  have r1 : Rd W b (bs rest) 0 := ⟨(g.block b s.r.lt own).trans s.r.out⟩
  refine ⟨x1, (s.R.grown g own2).far _ _ (by show w.heap.size ≠ w.heap.size + 1; omega), x1.set1 _, o.farT ⟨w.heap.size + 1, 1, none⟩ _ (x1.own_ne o (by decide)), (s.V.grown s.K (by decide) g).farT ⟨w.heap.size + 1, 1, none⟩ _ (x1.own_ne (s.V.grown s.K (by decide) g) (by decide)), (s.I.grown s.K (by decide) g).farT ⟨w.heap.size + 1, 1, none⟩ _ (x1.own_ne (s.I.grown s.K (by decide) g) (by decide)), r1.far ⟨w.heap.size + 1, 1, none⟩ _ (by show b ≠ w.heap.size + 1; omega), ?_, hb⟩
  have os := s.o.out
  refine ⟨g.os.trans os.os, g.tape.trans os.tape, g.output.trans os.output, by rw [size_set]; exact Nat.le_trans os.size g.size, fun i hi hne => ?_⟩
  rw [heap_setCell_other _ _ _ _ (by show i ≠ w.heap.size + 1; omega), g.block i (Nat.lt_of_lt_of_le hi os.size) (s.K.blk_ne (.inl (by omega)))]
  exact os.block i hi hne

theorem RS.putV {w wx W : World} {b : Nat} {l : Bool} {kp : Option Addr} {nk kc : Nat} {ks : List ByteArray} {vp : Option Addr} {nv vc : Nat} {vs : List Vl} {ip : Option Addr} {ni ic : Nat} {is : List Int} {rest : List Nat} (s : RS w wx b l kp nk kc ks vp nv vc vs ip ni ic is rest) (g : wx.grownBy W (blk vp)) {q : Option Addr} {m c : Nat} {zs : List Vl} (o : Own W (w.heap.size + 1 + 1) 49 3 q m c (vcl zs)) :
    C4 W (w.heap.size + 1) 27 (.bool l) (.slice kp nk kc) (.slice vp nv vc) (.slice ip ni ic) ∧ RS w (W.setCell ⟨w.heap.size + 1, 2, none⟩ (.slice q m c)) b l kp nk kc ks q m c zs ip ni ic is rest := by
  have hb := s.hb
  have x1 := s.X.grown g (s.X.own_ne s.V (by decide))
  have own : some b ≠ blk vp := s.V.blk_ne (.inl (by omega))
  have own2 : some w.heap.size ≠ blk vp := s.V.blk_ne (.inl (by omega))
  have r1 : Rd W b (bs rest) 0 := ⟨(g.block b s.r.lt own).trans s.r.out⟩
  refine ⟨x1, (s.R.grown g own2).far _ _ (by show w.heap.size ≠ w.heap.size + 1; omega), x1.set2 _, (s.K.grown s.V (by decide) g).farT ⟨w.heap.size + 1, 2, none⟩ _ (x1.own_ne (s.K.grown s.V (by decide) g) (by decide)), o.farT ⟨w.heap.size + 1, 2, none⟩ _ (x1.own_ne o (by decide)), (s.I.grown s.V (by decide) g).farT ⟨w.heap.size + 1, 2, none⟩ _ (x1.own_ne (s.I.grown s.V (by decide) g) (by decide)), r1.far ⟨w.heap.size + 1, 2, none⟩ _ (by show b ≠ w.heap.size + 1; omega), ?_, hb⟩
  have os := s.o.out
  refine ⟨g.os.trans os.os, g.tape.trans os.tape, g.output.trans os.output, by rw [size_set]; exact Nat.le_trans os.size g.size, fun i hi hne => ?_⟩
  rw [heap_setCell_other _ _ _ _ (by show i ≠ w.heap.size + 1; omega), g.block i (Nat.lt_of_lt_of_le hi os.size) (s.V.blk_ne (.inl (by omega)))]
  exact os.block i hi hne

theorem RS.putI {w wx W : World} {b : Nat} {l : Bool} {kp : Option Addr} {nk kc : Nat} {ks : List ByteArray} {vp : Option Addr} {nv vc : Nat} {vs : List Vl} {ip : Option Addr} {ni ic : Nat} {is : List Int} {rest : List Nat} (s : RS w wx b l kp nk kc ks vp nv vc vs ip ni ic is rest) (g : wx.grownBy W (blk ip)) {q : Option Addr} {m c : Nat} {zs : List Int} (o : Own W (w.heap.size + 1 + 1) 3 1 q m c (icl zs)) :
    C4 W (w.heap.size + 1) 27 (.bool l) (.slice kp nk kc) (.slice vp nv vc) (.slice ip ni ic) ∧ RS w (W.setCell ⟨w.heap.size + 1, 3, none⟩ (.slice q m c)) b l kp nk kc ks vp nv vc vs q m c zs rest := by
  have hb := s.hb
  have x1 := s.X.grown g (s.X.own_ne s.I (by decide))
  have own : some b ≠ blk ip := s.I.blk_ne (.inl (by omega))
  have own2 : some w.heap.size ≠ blk ip := s.I.blk_ne (.inl (by omega))
  have r1 : Rd W b (bs rest) 0 := ⟨(g.block b s.r.lt own).trans s.r.out⟩
  refine ⟨x1, (s.R.grown g own2).far _ _ (by show w.heap.size ≠ w.heap.size + 1; omega), x1.set3 _, (s.K.grown s.I (by decide) g).farT ⟨w.heap.size + 1, 3, none⟩ _ (x1.own_ne (s.K.grown s.I (by decide) g) (by decide)), (s.V.grown s.I (by decide) g).farT ⟨w.heap.size + 1, 3, none⟩ _ (x1.own_ne (s.V.grown s.I (by decide) g) (by decide)), o.farT ⟨w.heap.size + 1, 3, none⟩ _ (x1.own_ne o (by decide)), r1.far ⟨w.heap.size + 1, 3, none⟩ _ (by show b ≠ w.heap.size + 1; omega), ?_, hb⟩
  have os := s.o.out
  refine ⟨g.os.trans os.os, g.tape.trans os.tape, g.output.trans os.output, by rw [size_set]; exact Nat.le_trans os.size g.size, fun i hi hne => ?_⟩
  rw [heap_setCell_other _ _ _ _ (by show i ≠ w.heap.size + 1; omega), g.block i (Nat.lt_of_lt_of_le hi os.size) (s.I.blk_ne (.inl (by omega)))]
  exact os.block i hi hne

set_option maxHeartbeats 4000000 in
set_option maxRecDepth 100000 in
theorem read_true {w : World} {b : Nat} {x : Nd} (hr : Rd w b (bs x.put) 0) (g : Good x) (hl : x.leaf = true) (h60 : x.ks.length ≤ 60) :
    Calls Try.prog 32 #[.pointer (some ⟨b, 0, none⟩), .bool true] w fun e w' => ∃ kp nk kc vp nv vc ip ni ic, e = .returned (.tuple #[.agg #[.bool true, .slice kp nk kc, .slice vp nv vc, .slice ip ni ic], .int .i64 0]) ∧ NV w' true kp nk kc vp nv vc ip ni ic x ∧ Og b w w' := by
  obtain ⟨i9, hi9, hz90, hz91, hz92⟩ := info_parts info9
  obtain ⟨i49, hi49, hz490, hz491, hz492⟩ := info_parts info49
  have hf := h60
  have hbl := hr.lt
  obtain ⟨nk, hnk⟩ : ∃ nk, x.ks.length = nk := ⟨_, rfl⟩
  rw [hnk] at hf
  have hvl : x.vs.length = nk := by rw [(g.lv hl).1, hnk]
  have hput : x.put = numL nk ++ x.tail 0 nk := by
    have a := tail_items x nk 0
    rw [Nat.zero_add] at a
    unfold Nd.put Nd.head
    rw [hnk, if_pos hl, ← a]
    simp [Nd.items]
  rw [hput] at hr
  have htl := tail_length g nk 0 (by omega)
  have HTL : Hid (∀ k i, i + k ≤ nk → (x.tail i k).length ≤ k * 115) := fun k i h => tail_length g k i (by omega)
  have HKL : Hid (x.ks.length = nk) := hnk
  have HVL : Hid (x.vs.length = nk) := hvl
  have G : Hid (Good x) := g
  have HLF : Hid (x.leaf = true) := hl
  obtain ⟨oA, hoA⟩ : ∃ o : Obj, o = .cells #[.bool false, .slice none 0 0, .slice none 0 0, .slice none 0 0] 27 := ⟨_, rfl⟩
  obtain ⟨oB, hoB⟩ : ∃ o : Obj, o = .cells #[.bool true, .slice none 0 0, .slice none 0 0, .slice none 0 0] 27 := ⟨_, rfl⟩
  have K0 : Kept w ((w.alloc oA).alloc oB) := ((Kept.refl w).alloc _).alloc _
  have s0 : RS w ((w.alloc oA).alloc oB) b true none 0 0 [] none 0 0 [] none 0 0 [] (numL nk ++ x.tail 0 nk) := by
    refine ⟨?_, ?_, ⟨World.ownsRow_nil _ _ _ _⟩, ⟨World.ownsRow_nil _ _ _ _⟩, ⟨World.ownsRow_nil _ _ _ _⟩, K0.rd hr, K0.og b, hbl⟩
    · subst hoA; exact (C4.alloc w 27 _ _ _ _).kept ((Kept.refl _).alloc _)
    · subst hoB; rw [← size_alloc w oA]; exact C4.alloc _ 27 _ _ _ _
  have A1 := rnum2 nk (by omega) (x.tail 0 nk) (by omega) 237 (by omega) s0.r
  have A1 : Calls Try.prog 60 #[.pointer (some ⟨b, 0, none⟩), .int .u64 237] ((w.alloc oA).alloc oB) fun e w' => e = .returned (.int .u64 (nk : Nat)) ∧ Rd w' b (bs (x.tail 0 nk)) 0 ∧ Og b ((w.alloc oA).alloc oB) w' := A1
  subst hoA; subst hoB
  clear hr g hput htl K0 hnk hvl hl
  go_enter Try.func32, Try.ntmps32
  go_wp2_with (first
    | (go_at_call 60
       (with_reducible refine A1.mono ?_)
       rintro e v1 ⟨rfl, r1, o1⟩
       have s1 := s0.call o1 r1
       clear A1 s0 r1 o1))
  go_loopg [23] nk (fun gg v wx => ∃ (i : Nat) (kp : Option Addr) (kc : Nat) (vp : Option Addr) (vc : Nat), v = .int .u64 (i : Nat) ∧ Hid (gg = nk - i) ∧ i ≤ nk ∧ RS w wx b true kp i kc (x.ks.take i) vp i vc (x.vs.take i) none 0 0 [] (x.tail i (nk - i)))
  case atStart => exact ⟨0, _, _, _, _, rfl, rfl, Nat.zero_le _, s1⟩
  case round =>
    obtain ⟨i, kp, kc, vp, vc, rfl, hg, hin, s⟩ := hrel
    clear s1
    by_cases h1 : i < nk
    · have h1' : (i : Int) < (nk : Int) := by omega
      obtain ⟨k, hk⟩ : ∃ k, x.ks[i]? = some k := ⟨_, List.getElem?_eq_getElem (by rw [HKL.out]; exact h1)⟩
      obtain ⟨v, hv⟩ : ∃ v, x.vs[i]? = some v := ⟨_, List.getElem?_eq_getElem (by rw [HVL.out]; exact h1)⟩
      have HK : Hid (x.ks[i]? = some k) := hk
      have HV : Hid (x.vs[i]? = some v) := hv
      have hks := G.out.small k (List.mem_of_getElem? hk)
      have hov := G.out.ok v (List.mem_of_getElem? hv)
      have et : x.tail i (nk - i) = keyN k ++ (valN v ++ x.tail (i + 1) (nk - (i + 1))) := by
        rw [show nk - i = (nk - (i + 1)) + 1 by omega, Nd.tail]
        unfold Nd.item
        rw [hk, hv, if_pos HLF.out, List.append_assoc]
        rfl
      have z1 := HTL.out (nk - (i + 1)) (i + 1) (by omega)
      have z2 := valN_length v hov
      rw [et] at s
      have s' := s.kept (Kept.refl wr).drew
      have A2 := rt64 k hks (valN v ++ x.tail (i + 1) (nk - (i + 1))) (by rw [List.length_append]; omega) s'.r
      have HA3 : Hid (∀ W, Rd W b (bs (valN v ++ x.tail (i + 1) (nk - (i + 1)))) 0 → Calls Try.prog 62 #[.pointer (some ⟨b, 0, none⟩)] W fun e w' => e = .returned (.agg #[.string v.d, .int .i64 v.p, .int .i64 v.l]) ∧ Rd w' b (bs (x.tail (i + 1) (nk - (i + 1)))) 0 ∧ Og b W w') := fun W h => value_walk v hov _ (by omega) h
      obtain ⟨c0, c1, c2, c3⟩ := s'.X.cs
      clear hk hv et z1 z2 hks
      go_wp2_with fail
      go_region_law (first
        | (go_simp
           go_at_call 61
           (with_reducible refine A2.mono ?_)
           rintro e v1 ⟨rfl, r1, o1⟩
           have s1 := s'.call o1 r1
           obtain ⟨d0, d1, d2, d3⟩ := s1.X.cs
           have d1' := fun o => (s1.X.kept ((Kept.refl v1).alloc o)).cs.2.1
           have sA := s1.kept ((Kept.refl v1).alloc (.cells #[.string k] 9))
           have hn1 := one_cellA v1 (.string k) 9
           have h1one : ∀ u ∈ [Value.string k], u.oneCell' = true := (by intro u hu; simp at hu; subst hu; rfl)
           have hBE : w.heap.size + 1 + 1 ≤ (v1.alloc (.cells #[.string k] 9)).heap.size := (by have := sA.X.lt; omega)
           clear A2
           go_wp2_with fail)
        | (refine step_append_lies _ (by rfl) _ _ _ (by rfl) (w.heap.size + 1 + 1) 9 i9 _ 1 16 Try.underlying23 hi9 hz90 hz91 hz92 (by rfl) (by decide) (.slice kp i kc) i (kcl (x.ks.take i)) (by rfl) sA.K.out ⟨v1.heap.size, 0, none⟩ 1 1 [.string k] (by rfl) (by rfl) hn1 h1one (by decide) (by unfold maxLen; omega) (by omega) hBE _ rfl ?_
           intro g3 cap3 w3 ho3 hg3 _ _
           rw [ob] at hg3
           obtain ⟨X3, s3⟩ := sA.putK hg3 (q := some ⟨g3, 0, none⟩) (m := i + 1) (c := cap3) (zs := x.ks.take (i + 1)) ⟨by rw [kcl_more HK.out]; exact ho3⟩
           have c33 := X3.cs.2.1
           have f33 := X3.fz 1))
      all_goals
        clear X3 c33 f33 hg3 ho3 sA hn1 h1one hBE s1 d0 d1 d2 d3 d1' o1 r1 s' c0 c1 c2 c3 s
        generalize hW3 : w3.setCell ⟨w.heap.size + 1, 1, none⟩ (.slice (some ⟨g3, 0, none⟩) (i + 1) cap3) = W3 at *
        clear hW3
        have s' := s3.kept (Kept.refl W3).drew
        clear s3
        have A3 := HA3.out _ s'.r
        obtain ⟨c0, c1, c2, c3⟩ := s'.X.cs
        clear HA3
        go_wp2_with fail
        go_region_law (first
          | (go_simp
             go_at_call 62
             (with_reducible refine A3.mono ?_)
             rintro e v5 ⟨rfl, r5, o5⟩
             have s5 := s'.call o5 r5
             obtain ⟨d0, d1, d2, d3⟩ := s5.X.cs
             have d2' := fun o => (s5.X.kept ((Kept.refl v5).alloc o)).cs.2.2.1
             have sA := s5.kept ((Kept.refl v5).alloc (.cells #[.string v.d, .int .i64 v.p, .int .i64 v.l] 49))
             have hn1 := three_cellsA v5 (.string v.d) (.int .i64 v.p) (.int .i64 v.l) 49
             have h1one : ∀ u ∈ [Value.string v.d, Value.int .i64 v.p, Value.int .i64 v.l], u.oneCell' = true := Vl.one v
             have hBE : w.heap.size + 1 + 1 ≤ (v5.alloc (.cells #[.string v.d, .int .i64 v.p, .int .i64 v.l] 49)).heap.size := (by have := sA.X.lt; omega)
             clear A3
             go_wp2_with fail)
          | (refine step_append_lies _ (by rfl) _ _ _ (by rfl) (w.heap.size + 1 + 1) 49 i49 _ 3 32 Try.underlying24 hi49 hz490 hz491 hz492 (by rfl) (by decide) (.slice vp i vc) i (vcl (x.vs.take i)) (by rfl) sA.V.out ⟨v5.heap.size, 0, none⟩ 1 1 [.string v.d, .int .i64 v.p, .int .i64 v.l] (by rfl) (by rfl) hn1 h1one (by decide) (by unfold maxLen; omega) (by omega) hBE _ rfl ?_
             intro g6 cap6 w6 ho6 hg6 _ _
             rw [ob] at hg6
             obtain ⟨X6, s6⟩ := sA.putV hg6 (q := some ⟨g6, 0, none⟩) (m := i + 1) (c := cap6) (zs := x.vs.take (i + 1)) ⟨by rw [vcl_more HV.out]; exact ho6⟩
             have c66 := X6.cs.2.2.1
             have f66 := X6.fz 2))
        all_goals
          clear X6 c66 f66 hg6 ho6 sA hn1 h1one hBE s5 d0 d1 d2 d3 d2' o5 r5 s' c0 c1 c2 c3
          generalize hW6 : w6.setCell ⟨w.heap.size + 1, 2, none⟩ (.slice (some ⟨g6, 0, none⟩) (i + 1) cap6) = W6 at *
          clear hW6
          go_wp2
          go_roundg (nk - (i + 1))
          case measure => rw [hg.out]; omega
          case rel => exact ⟨i + 1, _, cap3, _, cap6, by go_num, rfl, by omega, s6⟩
    · obtain rfl : nk = i := by omega
      have h1' : ¬ ((nk : Int) < (nk : Int)) := by omega
      rw [Nat.sub_self, List.take_of_length_le (by rw [HKL.out]; exact Nat.le_refl _), List.take_of_length_le (by rw [HVL.out]; exact Nat.le_refl _)] at s
      have s' := s.kept (Kept.refl wr).drew
      have AE := end_walk (x := 0) s'.r
      obtain ⟨c0, c1, c2, c3⟩ := s'.X.cs
      obtain ⟨⟨g0, f0⟩, ⟨g1, f1⟩, ⟨g2, f2⟩, ⟨g3, f3⟩, hfin⟩ := ready4 s.R.out (.bool true) (.slice kp nk kc) (.slice vp nk vc) (.slice none 0 0)
      go_wp2_with fail
      go_region_with (first
        | (go_at_call 63
           (with_reducible refine AE.mono ?_)
           rintro e v8 ⟨rfl, hv8⟩
           rw [hv8]
           clear hv8))
      all_goals
        have q1 := (s.K.mono (Nat.le_succ _)).st4 (b := w.heap.size) (Nat.lt_succ_self _) (.bool true) (.slice kp nk kc) (.slice vp nk vc) (.slice none 0 0)
        have q2 := (s.V.mono (Nat.le_succ _)).st4 (b := w.heap.size) (Nat.lt_succ_self _) (.bool true) (.slice kp nk kc) (.slice vp nk vc) (.slice none 0 0)
        have q3 : Og b w ((((wr.setCell ⟨w.heap.size, 0, none⟩ (.bool true)).setCell ⟨w.heap.size, 1, none⟩ (.slice kp nk kc)).setCell ⟨w.heap.size, 2, none⟩ (.slice vp nk vc)).setCell ⟨w.heap.size, 3, none⟩ (.slice none 0 0)) := by
          have os := s.o.out
          refine ⟨os.os, os.tape, os.output, by rw [size_set, size_set, size_set, size_set]; exact os.size, fun j hj hne => ?_⟩
          rw [others4 wr (by omega) _ _ _ _]
          exact os.block j hj hne
        generalize hW : ((((wr.setCell ⟨w.heap.size, 0, none⟩ (.bool true)).setCell ⟨w.heap.size, 1, none⟩ (.slice kp nk kc)).setCell ⟨w.heap.size, 2, none⟩ (.slice vp nk vc)).setCell ⟨w.heap.size, 3, none⟩ (.slice none 0 0)) = WF at hfin q1 q2 q3 ⊢
        go_wp2
        refine bodyPost_ret (v := .tuple #[.agg #[.bool true, .slice kp nk kc, .slice vp nk vc, .slice none 0 0], .int .i64 0]) ?_ rfl ⟨_, _, _, _, _, _, _, _, _, rfl, ⟨HLF.out, ((q1.kept (Kept.refl WF).drew)).rw, ((q2.kept (Kept.refl WF).drew)).rw, ?_⟩, q3.trans ((Kept.refl WF).drew.og b)⟩
        · exact results_two (p := 4) (u := 5) (ty := 27) rfl _ _ w.heap.size 27 #[.bool true, .slice kp nk kc, .slice vp nk vc, .slice none 0 0] (0, 0) _ rfl hfin Try.underlying27 rfl size27
        · rw [(G.out.lv HLF.out).2]
          exact ⟨rfl, Nat.le_refl _, Nat.zero_le _, .inl ⟨rfl, rfl⟩⟩
end Go.Proofs.Ytgcfollelefmcaa
