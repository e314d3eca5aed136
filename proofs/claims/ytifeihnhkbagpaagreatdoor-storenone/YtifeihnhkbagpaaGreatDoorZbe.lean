/- Joined: NNV NNW NNQ NNX BI BJ BK CA. What is proved of the functions beneath StoreNone. Conditions: those that each row names. -/
import Derived.Test.YtifeihnhkbagpaaGreatDoorZba
namespace Go.Proofs.YtifeihnhkbagpaaGreatDoor.N
open Go.ChangeShapes Go.WideShapes Go.ChangeAt Go.RowKit

def Nd.tail (x : Nd) : Nat → Nat → List Nat
  | _, 0 => []
  | i, k + 1 => x.item i ++ x.tail (i + 1) k
theorem tail_items (x : Nd) : ∀ k i, x.items i ++ x.tail i k = x.items (i + k)
  | 0, i => by simp [Nd.tail]
  | k + 1, i => by
    rw [Nd.tail, ← List.append_assoc, show x.items i ++ x.item i = x.items (i + 1) from rfl, tail_items x k (i + 1)]
    congr 1; omega
theorem tail_length {x : Nd} (g : Good x) : ∀ k i, i + k ≤ x.ks.length → (x.tail i k).length ≤ k * 115
  | 0, i, _ => by simp [Nd.tail]
  | k + 1, i, h => by
    have a := tail_length g k (i + 1) (by omega)
    have b := item_length g i (by omega)
    rw [Nd.tail, List.length_append]
    omega
theorem one_cellA (w : World) (u : Value) (t : TypeId) : ∀ (j : Nat) (v : Value), [u][j]? = some v → (w.alloc (.cells #[u] t)).cell? ((⟨w.heap.size, 0, none⟩ : Addr).add j) = some v := one_cell w u t
theorem three_cellsA (w : World) (a b c : Value) (t : TypeId) : ∀ (j : Nat) (v : Value), [a, b, c][j]? = some v → (w.alloc (.cells #[a, b, c] t)).cell? ((⟨w.heap.size, 0, none⟩ : Addr).add j) = some v := three_cells w a b c t
theorem kcl_more {ks : List ByteArray} {i : Nat} {k : ByteArray} (h : ks[i]? = some k) : kcl (ks.take (i + 1)) = kcl (ks.take i) ++ [.string k] := by
  rw [List.take_add_one, h, kcl_append]; rfl
theorem icl_more {is : List Int} {i : Nat} {k : Int} (h : is[i]? = some k) : icl (is.take (i + 1)) = icl (is.take i) ++ [.int .i64 k] := by
  rw [List.take_add_one, h, icl_append]; rfl

structure RS (w wx : World) (b : Nat) (l : Bool) (kp : Option Addr) (nk kc : Nat) (ks : List ByteArray) (vp : Option Addr) (nv vc : Nat) (vs : List Vl) (ip : Option Addr) (ni ic : Nat) (is : List Int) (rest : List Nat) : Prop where
  R : C4 wx w.heap.size 121 (.bool false) (.slice none 0 0) (.slice none 0 0) (.slice none 0 0)
  X : C4 wx (w.heap.size + 1) 121 (.bool l) (.slice kp nk kc) (.slice vp nv vc) (.slice ip ni ic)
  K : Own wx (w.heap.size + 1 + 1) 9 1 kp nk kc (kcl ks)
  V : Own wx (w.heap.size + 1 + 1) 77 3 vp nv vc (vcl vs)
  I : Own wx (w.heap.size + 1 + 1) 3 1 ip ni ic (icl is)
  r : Rd wx b (bs rest) 0
  o : Og b w wx
  hb : b < w.heap.size

theorem RS.call {w wx W : World} {b : Nat} {l : Bool} {kp : Option Addr} {nk kc : Nat} {ks : List ByteArray} {vp : Option Addr} {nv vc : Nat} {vs : List Vl} {ip : Option Addr} {ni ic : Nat} {is : List Int} {rest rest' : List Nat} (s : RS w wx b l kp nk kc ks vp nv vc vs ip ni ic is rest) (o : Og b wx W) (r : Rd W b (bs rest') 0) : RS w W b l kp nk kc ks vp nv vc vs ip ni ic is rest' :=
  have h := s.hb
  ⟨s.R.og o (by omega), s.X.og o (by omega), o.own s.K (by omega), o.own s.V (by omega), o.own s.I (by omega), r, s.o.trans o, s.hb⟩
theorem RS.kept {w wx W : World} {b : Nat} {l : Bool} {kp : Option Addr} {nk kc : Nat} {ks : List ByteArray} {vp : Option Addr} {nv vc : Nat} {vs : List Vl} {ip : Option Addr} {ni ic : Nat} {is : List Int} {rest : List Nat} (s : RS w wx b l kp nk kc ks vp nv vc vs ip ni ic is rest) (k : Kept wx W) : RS w W b l kp nk kc ks vp nv vc vs ip ni ic is rest := s.call (k.og b) (k.rd s.r)
theorem results_two {P : Program} {fn : Func} {p u : Tmp} {ty : TypeId} (h : fn.results = #[.cell p ty, .tmp u]) (tmps : Array Value) (w : World) (g : Nat) (t : TypeId) (cs : Array Value) (fr : Nat × Nat) (d : TypeDesc)
    (hp : tmps.getD p undef = .pointer (some ⟨g, 0, none⟩)) (hg : w.heap[g]? = some (.cells cs t fr))
    (hu : P.underlying ty = some d) (hd : (match d with | .struct _ | .array _ _ => true | _ => false) = true) (hi : (P.info? ty).map (·.size) = some cs.size) :
    (results fn tmps).run P w = .ok (.tuple #[.agg cs, tmps.getD u undef]) w := by
  rw [results_cell_tmp h, hp]
  simp [asAddr, run_loadVar_row w g t ty cs fr d hg hu hd hi]
theorem Rd.far {w : World} {b : Nat} {s : ByteArray} {e : Int} (k : Rd w b s e) (a : Addr) (v : Value) (h : b ≠ a.block) : Rd (w.setCell a v) b s e := ⟨(heap_setCell_other w a b v h).trans k.out⟩

theorem RS.putK {w wx W : World} {b : Nat} {l : Bool} {kp : Option Addr} {nk kc : Nat} {ks : List ByteArray} {vp : Option Addr} {nv vc : Nat} {vs : List Vl} {ip : Option Addr} {ni ic : Nat} {is : List Int} {rest : List Nat} (s : RS w wx b l kp nk kc ks vp nv vc vs ip ni ic is rest) (g : wx.grownBy W (blk kp)) {q : Option Addr} {m c : Nat} {zs : List ByteArray} (o : Own W (w.heap.size + 1 + 1) 9 1 q m c (kcl zs)) :
    C4 W (w.heap.size + 1) 121 (.bool l) (.slice kp nk kc) (.slice vp nv vc) (.slice ip ni ic) ∧ RS w (W.setCell ⟨w.heap.size + 1, 1, none⟩ (.slice q m c)) b l q m c zs vp nv vc vs ip ni ic is rest := by
  have hb := s.hb
  have x1 := s.X.grown g (s.X.own_ne s.K (by decide))
  have own : some b ≠ blk kp := s.K.blk_ne (.inl (by omega))
  have own2 : some w.heap.size ≠ blk kp := s.K.blk_ne (.inl (by omega))
  have r1 : Rd W b (bs rest) 0 := ⟨(g.block b s.r.lt own).trans s.r.out⟩
  refine ⟨x1, (s.R.grown g own2).far _ _ (by show w.heap.size ≠ w.heap.size + 1; omega), x1.set1 _, o.farT ⟨w.heap.size + 1, 1, none⟩ _ (x1.own_ne o (by decide)), (s.V.grown s.K (by decide) g).farT ⟨w.heap.size + 1, 1, none⟩ _ (x1.own_ne (s.V.grown s.K (by decide) g) (by decide)), (s.I.grown s.K (by decide) g).farT ⟨w.heap.size + 1, 1, none⟩ _ (x1.own_ne (s.I.grown s.K (by decide) g) (by decide)), r1.far ⟨w.heap.size + 1, 1, none⟩ _ (by show b ≠ w.heap.size + 1; omega), ?_, hb⟩
  have os := s.o.out
  refine ⟨g.os.trans os.os, g.tape.trans os.tape, g.output.trans os.output, by rw [size_set]; exact Nat.le_trans os.size g.size, fun i hi hne => ?_⟩
  rw [heap_setCell_other _ _ _ _ (by show i ≠ w.heap.size + 1; omega), g.block i (Nat.lt_of_lt_of_le hi os.size) (s.K.blk_ne (.inl (by omega)))]
  exact os.block i hi hne

theorem RS.putV {w wx W : World} {b : Nat} {l : Bool} {kp : Option Addr} {nk kc : Nat} {ks : List ByteArray} {vp : Option Addr} {nv vc : Nat} {vs : List Vl} {ip : Option Addr} {ni ic : Nat} {is : List Int} {rest : List Nat} (s : RS w wx b l kp nk kc ks vp nv vc vs ip ni ic is rest) (g : wx.grownBy W (blk vp)) {q : Option Addr} {m c : Nat} {zs : List Vl} (o : Own W (w.heap.size + 1 + 1) 77 3 q m c (vcl zs)) :
    C4 W (w.heap.size + 1) 121 (.bool l) (.slice kp nk kc) (.slice vp nv vc) (.slice ip ni ic) ∧ RS w (W.setCell ⟨w.heap.size + 1, 2, none⟩ (.slice q m c)) b l kp nk kc ks q m c zs ip ni ic is rest := by
  have hb := s.hb
  have x1 := s.X.grown g (s.X.own_ne s.V (by decide))
  have own : some b ≠ blk vp := s.V.blk_ne (.inl (by omega))
  have own2 : some w.heap.size ≠ blk vp := s.V.blk_ne (.inl (by omega))
  have r1 : Rd W b (bs rest) 0 := ⟨(g.block b s.r.lt own).trans s.r.out⟩
  refine ⟨x1, (s.R.grown g own2).far _ _ (by show w.heap.size ≠ w.heap.size + 1; omega), x1.set2 _, (s.K.grown s.V (by decide) g).farT ⟨w.heap.size + 1, 2, none⟩ _ (x1.own_ne (s.K.grown s.V (by decide) g) (by decide)), o.farT ⟨w.heap.size + 1, 2, none⟩ _ (x1.own_ne o (by decide)), (s.I.grown s.V (by decide) g).farT ⟨w.heap.size + 1, 2, none⟩ _ (x1.own_ne (s.I.grown s.V (by decide) g) (by decide)), r1.far ⟨w.heap.size + 1, 2, none⟩ _ (by show b ≠ w.heap.size + 1; omega), ?_, hb⟩
  have os := s.o.out
  refine ⟨g.os.trans os.os, g.tape.trans os.tape, g.output.trans os.output, by rw [size_set]; exact Nat.le_trans os.size g.size, fun i hi hne => ?_⟩
  rw [heap_setCell_other _ _ _ _ (by show i ≠ w.heap.size + 1; omega), g.block i (Nat.lt_of_lt_of_le hi os.size) (s.V.blk_ne (.inl (by omega)))]
  exact os.block i hi hne

theorem RS.putI {w wx W : World} {b : Nat} {l : Bool} {kp : Option Addr} {nk kc : Nat} {ks : List ByteArray} {vp : Option Addr} {nv vc : Nat} {vs : List Vl} {ip : Option Addr} {ni ic : Nat} {is : List Int} {rest : List Nat} (s : RS w wx b l kp nk kc ks vp nv vc vs ip ni ic is rest) (g : wx.grownBy W (blk ip)) {q : Option Addr} {m c : Nat} {zs : List Int} (o : Own W (w.heap.size + 1 + 1) 3 1 q m c (icl zs)) :
    C4 W (w.heap.size + 1) 121 (.bool l) (.slice kp nk kc) (.slice vp nv vc) (.slice ip ni ic) ∧ RS w (W.setCell ⟨w.heap.size + 1, 3, none⟩ (.slice q m c)) b l kp nk kc ks vp nv vc vs q m c zs rest := by
  have hb := s.hb
  have x1 := s.X.grown g (s.X.own_ne s.I (by decide))
  have own : some b ≠ blk ip := s.I.blk_ne (.inl (by omega))
  have own2 : some w.heap.size ≠ blk ip := s.I.blk_ne (.inl (by omega))
  have r1 : Rd W b (bs rest) 0 := ⟨(g.block b s.r.lt own).trans s.r.out⟩
  refine ⟨x1, (s.R.grown g own2).far _ _ (by show w.heap.size ≠ w.heap.size + 1; omega), x1.set3 _, (s.K.grown s.I (by decide) g).farT ⟨w.heap.size + 1, 3, none⟩ _ (x1.own_ne (s.K.grown s.I (by decide) g) (by decide)), (s.V.grown s.I (by decide) g).farT ⟨w.heap.size + 1, 3, none⟩ _ (x1.own_ne (s.V.grown s.I (by decide) g) (by decide)), o.farT ⟨w.heap.size + 1, 3, none⟩ _ (x1.own_ne o (by decide)), r1.far ⟨w.heap.size + 1, 3, none⟩ _ (by show b ≠ w.heap.size + 1; omega), ?_, hb⟩
  have os := s.o.out
  refine ⟨g.os.trans os.os, g.tape.trans os.tape, g.output.trans os.output, by rw [size_set]; exact Nat.le_trans os.size g.size, fun i hi hne => ?_⟩
  rw [heap_setCell_other _ _ _ _ (by show i ≠ w.heap.size + 1; omega), g.block i (Nat.lt_of_lt_of_le hi os.size) (s.I.blk_ne (.inl (by omega)))]
  exact os.block i hi hne

set_option maxHeartbeats 4000000 in
set_option maxRecDepth 100000 in
theorem read_true {w : World} {b : Nat} {x : Nd} (hr : Rd w b (bs x.put) 0) (g : Good x) (hl : x.leaf = true) (h60 : x.ks.length ≤ 120) :
    Calls Tryz.prog 167 #[.pointer (some ⟨b, 0, none⟩), .bool true] w fun e w' => ∃ kp nk kc vp nv vc ip ni ic, e = .returned (.tuple #[.agg #[.bool true, .slice kp nk kc, .slice vp nv vc, .slice ip ni ic], .int .i64 0]) ∧ NV w' true kp nk kc vp nv vc ip ni ic x ∧ Og b w w' ∧ Nw w.heap.size ip := by
  obtain ⟨i9, hi9, hz90, hz91, hz92⟩ := info_parts info9
  obtain ⟨i49, hi49, hz490, hz491, hz492⟩ := info_parts info77
  have hf := h60
  have hbl := hr.lt
  obtain ⟨nk, hnk⟩ : ∃ nk, x.ks.length = nk := ⟨_, rfl⟩
  rw [hnk] at hf
  have hvl : x.vs.length = nk := by rw [(g.lv hl).1, hnk]
  have hput : x.put = numL nk ++ x.tail 0 nk := by
    have a := tail_items x nk 0
    rw [Nat.zero_add] at a
    unfold Nd.put Nd.head
    rw [hnk, if_pos hl, ← a]
    simp [Nd.items]
  rw [hput] at hr
  have htl := tail_length g nk 0 (by omega)
  have HTL : Hid (∀ k i, i + k ≤ nk → (x.tail i k).length ≤ k * 115) := fun k i h => tail_length g k i (by omega)
  have HKL : Hid (x.ks.length = nk) := hnk
  have HVL : Hid (x.vs.length = nk) := hvl
  have G : Hid (Good x) := g
  have HLF : Hid (x.leaf = true) := hl
  obtain ⟨oA, hoA⟩ : ∃ o : Obj, o = .cells #[.bool false, .slice none 0 0, .slice none 0 0, .slice none 0 0] 121 := ⟨_, rfl⟩
  obtain ⟨oB, hoB⟩ : ∃ o : Obj, o = .cells #[.bool true, .slice none 0 0, .slice none 0 0, .slice none 0 0] 121 := ⟨_, rfl⟩
  have K0 : Kept w ((w.alloc oA).alloc oB) := ((Kept.refl w).alloc _).alloc _
  have s0 : RS w ((w.alloc oA).alloc oB) b true none 0 0 [] none 0 0 [] none 0 0 [] (numL nk ++ x.tail 0 nk) := by
    refine ⟨?_, ?_, ⟨World.ownsRow_nil _ _ _ _⟩, ⟨World.ownsRow_nil _ _ _ _⟩, ⟨World.ownsRow_nil _ _ _ _⟩, K0.rd hr, K0.og b, hbl⟩
    · subst hoA; exact (C4.alloc w 121 _ _ _ _).kept ((Kept.refl _).alloc _)
    · subst hoB; rw [← size_alloc w oA]; exact C4.alloc _ 121 _ _ _ _
  have A1 := rnum2 nk (by omega) (x.tail 0 nk) (by omega) 237 (by omega) s0.r
  have A1 : Calls Tryz.prog 171 #[.pointer (some ⟨b, 0, none⟩), .int .u64 237] ((w.alloc oA).alloc oB) fun e w' => e = .returned (.int .u64 (nk : Nat)) ∧ Rd w' b (bs (x.tail 0 nk)) 0 ∧ Og b ((w.alloc oA).alloc oB) w' := A1
  subst hoA; subst hoB
  clear hr g hput htl K0 hnk hvl hl
  go_enter Tryz.func167, Tryz.ntmps167
  go_wp2_with (first
    | (go_at_call 171
       (with_reducible refine A1.mono ?_)
       rintro e v1 ⟨rfl, r1, o1⟩
       have s1 := s0.call o1 r1
       clear A1 s0 r1 o1))
  go_loopg [23] nk (fun gg v wx => ∃ (i : Nat) (kp : Option Addr) (kc : Nat) (vp : Option Addr) (vc : Nat), v = .int .u64 (i : Nat) ∧ Hid (gg = nk - i) ∧ i ≤ nk ∧ RS w wx b true kp i kc (x.ks.take i) vp i vc (x.vs.take i) none 0 0 [] (x.tail i (nk - i)))
  case atStart => exact ⟨0, _, _, _, _, rfl, rfl, Nat.zero_le _, s1⟩
  case round =>
    obtain ⟨i, kp, kc, vp, vc, rfl, hg, hin, s⟩ := hrel
    clear s1
    by_cases h1 : i < nk
    · have h1' : (i : Int) < (nk : Int) := by omega
      obtain ⟨k, hk⟩ : ∃ k, x.ks[i]? = some k := ⟨_, List.getElem?_eq_getElem (by rw [HKL.out]; exact h1)⟩
      obtain ⟨v, hv⟩ : ∃ v, x.vs[i]? = some v := ⟨_, List.getElem?_eq_getElem (by rw [HVL.out]; exact h1)⟩
      have HK : Hid (x.ks[i]? = some k) := hk
      have HV : Hid (x.vs[i]? = some v) := hv
      have hks := G.out.small k (List.mem_of_getElem? hk)
      have hov := G.out.ok v (List.mem_of_getElem? hv)
      have et : x.tail i (nk - i) = keyN k ++ (valN v ++ x.tail (i + 1) (nk - (i + 1))) := by
        rw [show nk - i = (nk - (i + 1)) + 1 by omega, Nd.tail]
        unfold Nd.item
        rw [hk, hv, if_pos HLF.out, List.append_assoc]
        rfl
      have z1 := HTL.out (nk - (i + 1)) (i + 1) (by omega)
      have z2 := valN_length v hov
      rw [et] at s
      have s' := s.kept (Kept.refl wr).drew
      have A2 := rt64 k hks (valN v ++ x.tail (i + 1) (nk - (i + 1))) (by rw [List.length_append]; omega) s'.r
      have HA3 : Hid (∀ W, Rd W b (bs (valN v ++ x.tail (i + 1) (nk - (i + 1)))) 0 → Calls Tryz.prog 209 #[.pointer (some ⟨b, 0, none⟩)] W fun e w' => e = .returned (.agg #[.string v.d, .int .i64 v.p, .int .i64 v.l]) ∧ Rd w' b (bs (x.tail (i + 1) (nk - (i + 1)))) 0 ∧ Og b W w') := fun W h => value_walk v hov _ (by omega) h
      obtain ⟨c0, c1, c2, c3⟩ := s'.X.cs
      clear hk hv et z1 z2 hks
      go_wp2_with fail
      go_region_law (first
        | (go_simp
           go_at_call 208
           (with_reducible refine A2.mono ?_)
           rintro e v1 ⟨rfl, r1, o1⟩
           have s1 := s'.call o1 r1
           obtain ⟨d0, d1, d2, d3⟩ := s1.X.cs
           have d1' := fun o => (s1.X.kept ((Kept.refl v1).alloc o)).cs.2.1
           have sA := s1.kept ((Kept.refl v1).alloc (.cells #[.string k] 9))
           have hn1 := one_cellA v1 (.string k) 9
           have h1one : ∀ u ∈ [Value.string k], u.oneCell' = true := (by intro u hu; simp at hu; subst hu; rfl)
           have hBE : w.heap.size + 1 + 1 ≤ (v1.alloc (.cells #[.string k] 9)).heap.size := (by have := sA.X.lt; omega)
           clear A2
           go_wp2_with fail)
        | (refine step_append_lies _ (by rfl) _ _ _ (by rfl) (w.heap.size + 1 + 1) 9 i9 _ 1 16 Tryz.underlying49 hi9 hz90 hz91 hz92 (by rfl) (by decide) (.slice kp i kc) i (kcl (x.ks.take i)) (by rfl) sA.K.out ⟨v1.heap.size, 0, none⟩ 1 1 [.string k] (by rfl) (by rfl) hn1 h1one (by decide) (by unfold maxLen; omega) (by omega) hBE _ rfl ?_
           intro g3 cap3 w3 ho3 hg3 _ _
           rw [ob] at hg3
           obtain ⟨X3, s3⟩ := sA.putK hg3 (q := some ⟨g3, 0, none⟩) (m := i + 1) (c := cap3) (zs := x.ks.take (i + 1)) ⟨by rw [kcl_more HK.out]; exact ho3⟩
           have c33 := X3.cs.2.1
           have f33 := X3.fz 1))
      all_goals
        clear X3 c33 f33 hg3 ho3 sA hn1 h1one hBE s1 d0 d1 d2 d3 d1' o1 r1 s' c0 c1 c2 c3 s
        generalize hW3 : w3.setCell ⟨w.heap.size + 1, 1, none⟩ (.slice (some ⟨g3, 0, none⟩) (i + 1) cap3) = W3 at *
        clear hW3
        have s' := s3.kept (Kept.refl W3).drew
        clear s3
        have A3 := HA3.out _ s'.r
        obtain ⟨c0, c1, c2, c3⟩ := s'.X.cs
        clear HA3
        go_wp2_with fail
        go_region_law (first
          | (go_simp
             go_at_call 209
             (with_reducible refine A3.mono ?_)
             rintro e v5 ⟨rfl, r5, o5⟩
             have s5 := s'.call o5 r5
             obtain ⟨d0, d1, d2, d3⟩ := s5.X.cs
             have d2' := fun o => (s5.X.kept ((Kept.refl v5).alloc o)).cs.2.2.1
             have sA := s5.kept ((Kept.refl v5).alloc (.cells #[.string v.d, .int .i64 v.p, .int .i64 v.l] 77))
             have hn1 := three_cellsA v5 (.string v.d) (.int .i64 v.p) (.int .i64 v.l) 77
             have h1one : ∀ u ∈ [Value.string v.d, Value.int .i64 v.p, Value.int .i64 v.l], u.oneCell' = true := Vl.one v
             have hBE : w.heap.size + 1 + 1 ≤ (v5.alloc (.cells #[.string v.d, .int .i64 v.p, .int .i64 v.l] 77)).heap.size := (by have := sA.X.lt; omega)
             clear A3
             go_wp2_with fail)
          | (refine step_append_lies _ (by rfl) _ _ _ (by rfl) (w.heap.size + 1 + 1) 77 i49 _ 3 32 Tryz.underlying119 hi49 hz490 hz491 hz492 (by rfl) (by decide) (.slice vp i vc) i (vcl (x.vs.take i)) (by rfl) sA.V.out ⟨v5.heap.size, 0, none⟩ 1 1 [.string v.d, .int .i64 v.p, .int .i64 v.l] (by rfl) (by rfl) hn1 h1one (by decide) (by unfold maxLen; omega) (by omega) hBE _ rfl ?_
             intro g6 cap6 w6 ho6 hg6 _ _
             rw [ob] at hg6
             obtain ⟨X6, s6⟩ := sA.putV hg6 (q := some ⟨g6, 0, none⟩) (m := i + 1) (c := cap6) (zs := x.vs.take (i + 1)) ⟨by rw [vcl_more HV.out]; exact ho6⟩
             have c66 := X6.cs.2.2.1
             have f66 := X6.fz 2))
        all_goals
          clear X6 c66 f66 hg6 ho6 sA hn1 h1one hBE s5 d0 d1 d2 d3 d2' o5 r5 s' c0 c1 c2 c3
          generalize hW6 : w6.setCell ⟨w.heap.size + 1, 2, none⟩ (.slice (some ⟨g6, 0, none⟩) (i + 1) cap6) = W6 at *
          clear hW6
          go_wp2
          go_roundg (nk - (i + 1))
          case measure => rw [hg.out]; omega
          case rel => exact ⟨i + 1, _, cap3, _, cap6, by go_num, rfl, by omega, s6⟩
    · obtain rfl : nk = i := by omega
      have h1' : ¬ ((nk : Int) < (nk : Int)) := by omega
      rw [Nat.sub_self, List.take_of_length_le (by rw [HKL.out]; exact Nat.le_refl _), List.take_of_length_le (by rw [HVL.out]; exact Nat.le_refl _)] at s
      have s' := s.kept (Kept.refl wr).drew
      have AE := end_walk (x := 0) s'.r
      obtain ⟨c0, c1, c2, c3⟩ := s'.X.cs
      obtain ⟨⟨g0, f0⟩, ⟨g1, f1⟩, ⟨g2, f2⟩, ⟨g3, f3⟩, hfin⟩ := ready4 s.R.out (.bool true) (.slice kp nk kc) (.slice vp nk vc) (.slice none 0 0)
      go_wp2_with fail
      go_region_with (first
        | (go_at_call 210
           (with_reducible refine AE.mono ?_)
           rintro e v8 ⟨rfl, hv8⟩
           rw [hv8]
           clear hv8))
      all_goals
        have q1 := (s.K.mono (Nat.le_succ _)).st4 (b := w.heap.size) (Nat.lt_succ_self _) (.bool true) (.slice kp nk kc) (.slice vp nk vc) (.slice none 0 0)
        have q2 := (s.V.mono (Nat.le_succ _)).st4 (b := w.heap.size) (Nat.lt_succ_self _) (.bool true) (.slice kp nk kc) (.slice vp nk vc) (.slice none 0 0)
        have q3 : Og b w ((((wr.setCell ⟨w.heap.size, 0, none⟩ (.bool true)).setCell ⟨w.heap.size, 1, none⟩ (.slice kp nk kc)).setCell ⟨w.heap.size, 2, none⟩ (.slice vp nk vc)).setCell ⟨w.heap.size, 3, none⟩ (.slice none 0 0)) := by
          have os := s.o.out
          refine ⟨os.os, os.tape, os.output, by rw [size_set, size_set, size_set, size_set]; exact os.size, fun j hj hne => ?_⟩
          rw [others4 wr (by omega) _ _ _ _]
          exact os.block j hj hne
        generalize hW : ((((wr.setCell ⟨w.heap.size, 0, none⟩ (.bool true)).setCell ⟨w.heap.size, 1, none⟩ (.slice kp nk kc)).setCell ⟨w.heap.size, 2, none⟩ (.slice vp nk vc)).setCell ⟨w.heap.size, 3, none⟩ (.slice none 0 0)) = WF at hfin q1 q2 q3 ⊢
        go_wp2
        refine bodyPost_ret (v := .tuple #[.agg #[.bool true, .slice kp nk kc, .slice vp nk vc, .slice none 0 0], .int .i64 0]) ?_ rfl ⟨_, _, _, _, _, _, _, _, _, rfl, ⟨HLF.out, ((q1.kept (Kept.refl WF).drew)).rw, ((q2.kept (Kept.refl WF).drew)).rw, ?_, ((q1.kept (Kept.refl WF).drew)).rx, ((q2.kept (Kept.refl WF).drew)).rx, Rx.none _ _⟩, q3.trans ((Kept.refl WF).drew.og b), fun _ _ _ e => by cases e⟩
        · exact results_two (p := 4) (u := 5) (ty := 121) rfl _ _ w.heap.size 121 #[.bool true, .slice kp nk kc, .slice vp nk vc, .slice none 0 0] (0, 0) _ rfl hfin Tryz.underlying121 rfl size121
        · rw [(G.out.lv HLF.out).2]
          exact ⟨rfl, Nat.le_refl _, Nat.zero_le _, .inl ⟨rfl, rfl⟩⟩

set_option maxHeartbeats 4000000 in
set_option maxRecDepth 100000 in
theorem read_false {w : World} {b : Nat} {x : Nd} (hr : Rd w b (bs x.put) 0) (g : Good x) (hl : x.leaf = false) (h60 : x.ks.length ≤ 120) :
    Calls Tryz.prog 167 #[.pointer (some ⟨b, 0, none⟩), .bool false] w fun e w' => ∃ kp nk kc vp nv vc ip ni ic, e = .returned (.tuple #[.agg #[.bool false, .slice kp nk kc, .slice vp nv vc, .slice ip ni ic], .int .i64 0]) ∧ NV w' false kp nk kc vp nv vc ip ni ic x ∧ Og b w w' ∧ Nw w.heap.size ip := by
  obtain ⟨i9, hi9, hz90, hz91, hz92⟩ := info_parts info9
  obtain ⟨i3, hi3, hz30, hz31, hz32⟩ := info_parts info3
  have hf := h60
  have hbl := hr.lt
  obtain ⟨nk, hnk⟩ : ∃ nk, x.ks.length = nk := ⟨_, rfl⟩
  rw [hnk] at hf
  have hvl : x.is.length = nk + 1 := by rw [(g.li hl).1, hnk]
  obtain ⟨q0, hq0⟩ : ∃ v, x.is[0]? = some v := ⟨_, List.getElem?_eq_getElem (by omega)⟩
  obtain ⟨q, rfl, hq⟩ := g.ik q0 (List.mem_of_getElem? hq0)
  have HQ0 : Hid (x.is[0]? = some (q : Int)) := hq0
  have zq := num_small q (by omega)
  have uq : IntKind.i64.wrap (q : Int) = (q : Int) := by rw [IntKind.wrap_i64]; omega
  have hput : x.put = numL nk ++ (numL q ++ x.tail 0 nk) := by
    have a := tail_items x nk 0
    rw [Nat.zero_add] at a
    unfold Nd.put Nd.head
    rw [hnk, if_neg (by rw [hl]; decide), hq0, ← a]
    simp [Nd.items]
  rw [hput] at hr
  have htl := tail_length g nk 0 (by omega)
  have HTL : Hid (∀ k i, i + k ≤ nk → (x.tail i k).length ≤ k * 115) := fun k i h => tail_length g k i (by omega)
  have HKL : Hid (x.ks.length = nk) := hnk
  have HVL : Hid (x.is.length = nk + 1) := hvl
  have G : Hid (Good x) := g
  have HLF : Hid (x.leaf = false) := hl
  obtain ⟨oA, hoA⟩ : ∃ o : Obj, o = .cells #[.bool false, .slice none 0 0, .slice none 0 0, .slice none 0 0] 121 := ⟨_, rfl⟩
  obtain ⟨oB, hoB⟩ : ∃ o : Obj, o = .cells #[.bool false, .slice none 0 0, .slice none 0 0, .slice none 0 0] 121 := ⟨_, rfl⟩
  have K0 : Kept w ((w.alloc oA).alloc oB) := ((Kept.refl w).alloc _).alloc _
  have s0 : RS w ((w.alloc oA).alloc oB) b false none 0 0 [] none 0 0 [] none 0 0 [] (numL nk ++ (numL q ++ x.tail 0 nk)) := by
    refine ⟨?_, ?_, ⟨World.ownsRow_nil _ _ _ _⟩, ⟨World.ownsRow_nil _ _ _ _⟩, ⟨World.ownsRow_nil _ _ _ _⟩, K0.rd hr, K0.og b, hbl⟩
    · subst hoA; exact (C4.alloc w 121 _ _ _ _).kept ((Kept.refl _).alloc _)
    · subst hoB; rw [← size_alloc w oA]; exact C4.alloc _ 121 _ _ _ _
  have A1 := rnum2 nk (by omega) (numL q ++ x.tail 0 nk) (by rw [List.length_append]; omega) 237 (by omega) s0.r
  have A1 : Calls Tryz.prog 171 #[.pointer (some ⟨b, 0, none⟩), .int .u64 237] ((w.alloc oA).alloc oB) fun e w' => e = .returned (.int .u64 (nk : Nat)) ∧ Rd w' b (bs (numL q ++ x.tail 0 nk)) 0 ∧ Og b ((w.alloc oA).alloc oB) w' := A1
  have HAQ : Hid (∀ W, Rd W b (bs (numL q ++ x.tail 0 nk)) 0 → Calls Tryz.prog 171 #[.pointer (some ⟨b, 0, none⟩), .int .u64 16383] W fun e w' => e = .returned (.int .u64 (q : Nat)) ∧ Rd w' b (bs (x.tail 0 nk)) 0 ∧ Og b W w') := fun W h => rnum2 q (by omega) (x.tail 0 nk) (by omega) 16383 (by omega) h
  subst hoA; subst hoB
  clear hr g hput htl K0 hnk hvl hl hq0 zq
  go_enter Tryz.func167, Tryz.ntmps167
  go_wp2_with (first
    | (go_at_call 171
       (with_reducible refine A1.mono ?_)
       rintro e v1 ⟨rfl, r1, o1⟩
       have s1 := s0.call o1 r1
       clear A1 s0 r1 o1))
  have s' := s1.kept (Kept.refl v1).drew
  have AQ := HAQ.out _ s'.r
  obtain ⟨c0, c1, c2, c3⟩ := s'.X.cs
  clear HAQ s1
  go_region_law (first
    | (go_simp
       go_at_call 171
       (with_reducible refine AQ.mono ?_)
       rintro e v5 ⟨rfl, r5, o5⟩
       have s5 := s'.call o5 r5
       obtain ⟨d0, d1, d2, d3⟩ := s5.X.cs
       have d3' := fun o => (s5.X.kept ((Kept.refl v5).alloc o)).cs.2.2.2
       have sA := s5.kept ((Kept.refl v5).alloc (.cells #[.int .i64 (q : Nat)] 3))
       have hn1 := one_cellA v5 (.int .i64 (q : Nat)) 3
       have h1one : ∀ u ∈ [Value.int .i64 (q : Nat)], u.oneCell' = true := one_one .i64 _
       have hBE : w.heap.size + 1 + 1 ≤ (v5.alloc (.cells #[.int .i64 (q : Nat)] 3)).heap.size := (by have := sA.X.lt; omega)
       clear AQ
       go_wp2_with fail)
    | (refine step_append_lies _ (by rfl) _ _ _ (by rfl) (w.heap.size + 1 + 1) 3 i3 _ 1 8 Tryz.underlying94 hi3 hz30 hz31 hz32 (by rfl) (by decide) (.slice none 0 0) 0 (icl []) (by rfl) sA.I.out ⟨v5.heap.size, 0, none⟩ 1 1 [.int .i64 (q : Nat)] (by rfl) (by rfl) hn1 h1one (by decide) (by decide) (by decide) hBE _ rfl ?_
       intro g6 cap6 w6 ho6 hg6 _ _
       rw [ob] at hg6
       obtain ⟨X6, s6⟩ := sA.putI hg6 (q := some ⟨g6, 0, none⟩) (m := 1) (c := cap6) (zs := x.is.take (0 + 1)) ⟨by rw [icl_more HQ0.out]; exact ho6⟩
       have c66 := X6.cs.2.2.2
       have f66 := X6.fz 3))
  all_goals
   clear X6 c66 f66 hg6 ho6 sA hn1 h1one hBE s5 d0 d1 d2 d3 d3' o5 r5 s' c0 c1 c2 c3
   generalize hW6 : w6.setCell ⟨w.heap.size + 1, 3, none⟩ (.slice (some ⟨g6, 0, none⟩) 1 cap6) = W6 at *
   clear hW6
   go_wp2
   go_loopg [23] nk (fun gg v wx => ∃ (i : Nat) (kp : Option Addr) (kc : Nat) (ip : Option Addr) (ic : Nat), v = .int .u64 (i : Nat) ∧ Hid (gg = nk - i) ∧ i ≤ nk ∧ RS w wx b false kp i kc (x.ks.take i) none 0 0 [] ip (i + 1) ic (x.is.take (i + 1)) (x.tail i (nk - i)))
   case atStart => exact ⟨0, _, _, _, _, rfl, rfl, Nat.zero_le _, s6⟩
   case round =>
     obtain ⟨i, kp, kc, ip, ic, rfl, hg, hin, s⟩ := hrel
     clear s6
     by_cases h1 : i < nk
     · have h1' : (i : Int) < (nk : Int) := by omega
       obtain ⟨k, hk⟩ : ∃ k, x.ks[i]? = some k := ⟨_, List.getElem?_eq_getElem (by rw [HKL.out]; exact h1)⟩
       obtain ⟨v, hv⟩ : ∃ v, x.is[i + 1]? = some v := ⟨_, List.getElem?_eq_getElem (by rw [HVL.out]; omega)⟩
       obtain ⟨y, rfl, hy⟩ := G.out.ik v (List.mem_of_getElem? hv)
       have uy : IntKind.i64.wrap (y : Int) = (y : Int) := by rw [IntKind.wrap_i64]; omega
       have HK : Hid (x.ks[i]? = some k) := hk
       have HV : Hid (x.is[i + 1]? = some (y : Int)) := hv
       have hks := G.out.small k (List.mem_of_getElem? hk)
       have et : x.tail i (nk - i) = keyN k ++ (numL y ++ x.tail (i + 1) (nk - (i + 1))) := by
         rw [show nk - i = (nk - (i + 1)) + 1 by omega, Nd.tail]
         unfold Nd.item
         rw [hk, hv, if_neg (by rw [HLF.out]; decide), List.append_assoc]
         rfl
       have z1 := HTL.out (nk - (i + 1)) (i + 1) (by omega)
       have z2 := num_small y (by omega)
       rw [et] at s
       have s' := s.kept (Kept.refl wr).drew
       have A2 := rt64 k hks (numL y ++ x.tail (i + 1) (nk - (i + 1))) (by rw [List.length_append]; omega) s'.r
       have HA3 : Hid (∀ W, Rd W b (bs (numL y ++ x.tail (i + 1) (nk - (i + 1)))) 0 → Calls Tryz.prog 171 #[.pointer (some ⟨b, 0, none⟩), .int .u64 16383] W fun e w' => e = .returned (.int .u64 (y : Nat)) ∧ Rd w' b (bs (x.tail (i + 1) (nk - (i + 1)))) 0 ∧ Og b W w') := fun W h => rnum2 y (by omega) _ (by omega) 16383 (by omega) h
       obtain ⟨c0, c1, c2, c3⟩ := s'.X.cs
       clear hk hv et z1 z2 hks
       go_wp2_with fail
       go_region_law (first
         | (go_simp
            go_at_call 208
            (with_reducible refine A2.mono ?_)
            rintro e v1 ⟨rfl, r1, o1⟩
            have s1 := s'.call o1 r1
            obtain ⟨d0, d1, d2, d3⟩ := s1.X.cs
            have d1' := fun o => (s1.X.kept ((Kept.refl v1).alloc o)).cs.2.1
            have sA := s1.kept ((Kept.refl v1).alloc (.cells #[.string k] 9))
            have hn1 := one_cellA v1 (.string k) 9
            have h1one : ∀ u ∈ [Value.string k], u.oneCell' = true := (by intro u hu; simp at hu; subst hu; rfl)
            have hBE : w.heap.size + 1 + 1 ≤ (v1.alloc (.cells #[.string k] 9)).heap.size := (by have := sA.X.lt; omega)
            clear A2
            go_wp2_with fail)
         | (refine step_append_lies _ (by rfl) _ _ _ (by rfl) (w.heap.size + 1 + 1) 9 i9 _ 1 16 Tryz.underlying49 hi9 hz90 hz91 hz92 (by rfl) (by decide) (.slice kp i kc) i (kcl (x.ks.take i)) (by rfl) sA.K.out ⟨v1.heap.size, 0, none⟩ 1 1 [.string k] (by rfl) (by rfl) hn1 h1one (by decide) (by unfold maxLen; omega) (by omega) hBE _ rfl ?_
            intro g3 cap3 w3 ho3 hg3 _ _
            rw [ob] at hg3
            obtain ⟨X3, s3⟩ := sA.putK hg3 (q := some ⟨g3, 0, none⟩) (m := i + 1) (c := cap3) (zs := x.ks.take (i + 1)) ⟨by rw [kcl_more HK.out]; exact ho3⟩
            have c33 := X3.cs.2.1
            have f33 := X3.fz 1))
       all_goals
         clear X3 c33 f33 hg3 ho3 sA hn1 h1one hBE s1 d0 d1 d2 d3 d1' o1 r1 s' c0 c1 c2 c3 s
         generalize hW3 : w3.setCell ⟨w.heap.size + 1, 1, none⟩ (.slice (some ⟨g3, 0, none⟩) (i + 1) cap3) = W3 at *
         clear hW3
         have s' := s3.kept (Kept.refl W3).drew
         clear s3
         have A3 := HA3.out _ s'.r
         obtain ⟨c0, c1, c2, c3⟩ := s'.X.cs
         clear HA3
         go_wp2_with fail
         go_region_law (first
           | (go_simp
              go_at_call 171
              (with_reducible refine A3.mono ?_)
              rintro e v5 ⟨rfl, r5, o5⟩
              have s5 := s'.call o5 r5
              obtain ⟨d0, d1, d2, d3⟩ := s5.X.cs
              have d3' := fun o => (s5.X.kept ((Kept.refl v5).alloc o)).cs.2.2.2
              have sA := s5.kept ((Kept.refl v5).alloc (.cells #[.int .i64 (y : Nat)] 3))
              have hn1 := one_cellA v5 (.int .i64 (y : Nat)) 3
              have h1one : ∀ u ∈ [Value.int .i64 (y : Nat)], u.oneCell' = true := one_one .i64 _
              have hBE : w.heap.size + 1 + 1 ≤ (v5.alloc (.cells #[.int .i64 (y : Nat)] 3)).heap.size := (by have := sA.X.lt; omega)
              clear A3
              go_wp2_with fail)
           | (refine step_append_lies _ (by rfl) _ _ _ (by rfl) (w.heap.size + 1 + 1) 3 i3 _ 1 8 Tryz.underlying94 hi3 hz30 hz31 hz32 (by rfl) (by decide) (.slice ip (i + 1) ic) (i + 1) (icl (x.is.take (i + 1))) (by rfl) sA.I.out ⟨v5.heap.size, 0, none⟩ 1 1 [.int .i64 (y : Nat)] (by rfl) (by rfl) hn1 h1one (by decide) (by unfold maxLen; omega) (by omega) hBE _ rfl ?_
              intro g6 cap6 w6 ho6 hg6 _ _
              rw [ob] at hg6
              obtain ⟨X6, s6⟩ := sA.putI hg6 (q := some ⟨g6, 0, none⟩) (m := i + 1 + 1) (c := cap6) (zs := x.is.take (i + 1 + 1)) ⟨by rw [icl_more HV.out]; exact ho6⟩
              have c66 := X6.cs.2.2.2
              have f66 := X6.fz 3))
         all_goals
           clear X6 c66 f66 hg6 ho6 sA hn1 h1one hBE s5 d0 d1 d2 d3 d3' o5 r5 s' c0 c1 c2 c3
           generalize hW6 : w6.setCell ⟨w.heap.size + 1, 3, none⟩ (.slice (some ⟨g6, 0, none⟩) (i + 1 + 1) cap6) = W6 at *
           clear hW6
           go_wp2
           go_roundg (nk - (i + 1))
           case measure => rw [hg.out]; omega
           case rel => exact ⟨i + 1, _, cap3, _, cap6, by go_num, rfl, by omega, s6⟩
     · obtain rfl : nk = i := by omega
       have h1' : ¬ ((nk : Int) < (nk : Int)) := by omega
       rw [Nat.sub_self, List.take_of_length_le (by rw [HKL.out]; exact Nat.le_refl _), List.take_of_length_le (by rw [HVL.out]; exact Nat.le_refl _)] at s
       have s' := s.kept (Kept.refl wr).drew
       have AE := end_walk (x := 0) s'.r
       obtain ⟨c0, c1, c2, c3⟩ := s'.X.cs
       obtain ⟨⟨g0, f0⟩, ⟨g1, f1⟩, ⟨g2, f2⟩, ⟨g3, f3⟩, hfin⟩ := ready4 s.R.out (.bool false) (.slice kp nk kc) (.slice none 0 0) (.slice ip (nk + 1) ic)
       go_wp2_with fail
       go_region_with (first
         | (go_at_call 210
            (with_reducible refine AE.mono ?_)
            rintro e v8 ⟨rfl, hv8⟩
            rw [hv8]
            clear hv8))
       all_goals
         have q1 := (s.K.mono (Nat.le_succ _)).st4 (b := w.heap.size) (Nat.lt_succ_self _) (.bool false) (.slice kp nk kc) (.slice none 0 0) (.slice ip (nk + 1) ic)
         have q2 := (s.I.mono (Nat.le_succ _)).st4 (b := w.heap.size) (Nat.lt_succ_self _) (.bool false) (.slice kp nk kc) (.slice none 0 0) (.slice ip (nk + 1) ic)
         have q3 : Og b w ((((wr.setCell ⟨w.heap.size, 0, none⟩ (.bool false)).setCell ⟨w.heap.size, 1, none⟩ (.slice kp nk kc)).setCell ⟨w.heap.size, 2, none⟩ (.slice none 0 0)).setCell ⟨w.heap.size, 3, none⟩ (.slice ip (nk + 1) ic)) := by
           have os := s.o.out
           refine ⟨os.os, os.tape, os.output, by rw [size_set, size_set, size_set, size_set]; exact os.size, fun j hj hne => ?_⟩
           rw [others4 wr (by omega) _ _ _ _]
           exact os.block j hj hne
         generalize hW : ((((wr.setCell ⟨w.heap.size, 0, none⟩ (.bool false)).setCell ⟨w.heap.size, 1, none⟩ (.slice kp nk kc)).setCell ⟨w.heap.size, 2, none⟩ (.slice none 0 0)).setCell ⟨w.heap.size, 3, none⟩ (.slice ip (nk + 1) ic)) = WF at hfin q1 q2 q3 ⊢
         go_wp2
         refine bodyPost_ret (v := .tuple #[.agg #[.bool false, .slice kp nk kc, .slice none 0 0, .slice ip (nk + 1) ic], .int .i64 0]) ?_ rfl ⟨_, _, _, _, _, _, _, _, _, rfl, ⟨HLF.out, ((q1.kept (Kept.refl WF).drew)).rw, ?_, ((q2.kept (Kept.refl WF).drew)).rw, ((q1.kept (Kept.refl WF).drew)).rx, Rx.none _ _, ((q2.kept (Kept.refl WF).drew)).rx⟩, q3.trans ((Kept.refl WF).drew.og b), q2.nw.mono (by omega)⟩
         · exact results_two (p := 4) (u := 5) (ty := 121) rfl _ _ w.heap.size 121 #[.bool false, .slice kp nk kc, .slice none 0 0, .slice ip (nk + 1) ic] (0, 0) _ rfl hfin Tryz.underlying121 rfl size121
         · rw [(G.out.li HLF.out).2]
           exact ⟨rfl, Nat.le_refl _, Nat.zero_le _, .inl ⟨rfl, rfl⟩⟩

theorem read_walk {w : World} {b : Nat} {x : Nd} (hr : Rd w b (bs x.put) 0) (g : Good x) (h60 : x.ks.length ≤ 120) (l : Bool) (hl : x.leaf = l) :
    Calls Tryz.prog 167 #[.pointer (some ⟨b, 0, none⟩), .bool l] w fun e w' => ∃ kp nk kc vp nv vc ip ni ic, e = .returned (.tuple #[.agg #[.bool l, .slice kp nk kc, .slice vp nv vc, .slice ip ni ic], .int .i64 0]) ∧ NV w' l kp nk kc vp nv vc ip ni ic x ∧ Og b w w' ∧ Nw w.heap.size ip := by
  cases l with
  | true => exact read_true hr g hl h60
  | false => exact read_false hr g hl h60

theorem up_at {ks : List ByteArray} (hu : Up ks) {i j : Nat} {a b : ByteArray} (h : i < j) (ha : ks[i]? = some a) (hb : ks[j]? = some b) : sl a b = true := by
  obtain ⟨h1, rfl⟩ := List.getElem?_eq_some_iff.1 ha
  obtain ⟨h2, rfl⟩ := List.getElem?_eq_some_iff.1 hb
  exact List.pairwise_iff_getElem.1 hu i j h1 h2 h

set_option maxHeartbeats 2000000 in
set_option maxRecDepth 100000 in
theorem right_walk {w : World} {l : Bool} {kp : Option Addr} {nk kc : Nat} {vp : Option Addr} {nv vc : Nat} {ip : Option Addr} {ni ic : Nat} {x : Nd} (h : NV w l kp nk kc vp nv vc ip ni ic x) (hu : Up x.ks) (hok : ∀ v ∈ x.vs, Okv v) (hb : nk ≤ 1000) (hb2 : nv ≤ 1000) :
    Calls Tryz.prog 169 #[.agg #[.bool l, .slice kp nk kc, .slice vp nv vc, .slice ip ni ic]] w fun e w' => e = .returned (.bool true) ∧ Kept w w' := by
  have HV : Hid (NV w l kp nk kc vp nv vc ip ni ic x) := h
  have HU : Hid (Up x.ks) := hu
  have HO : Hid (∀ v ∈ x.vs, Okv v) := hok
  have K0 : Kept w (w.alloc (.cells #[.bool l, .slice kp nk kc, .slice vp nv vc, .slice ip ni ic] 121)) := (Kept.refl w).alloc _
  have A0 := C4.alloc w 121 (.bool l) (.slice kp nk kc) (.slice vp nv vc) (.slice ip ni ic)
  clear h hu hok
  go_enter Tryz.func169, Tryz.ntmps169
  go_wp2
  go_loopg [3] nk (fun gg v wx => ∃ i : Nat, v = .int .i64 (i : Nat) ∧ Hid (gg = nk + 1 - i) ∧ 1 ≤ i ∧ i ≤ nk + 1 ∧ C4 wx w.heap.size 121 (.bool l) (.slice kp nk kc) (.slice vp nv vc) (.slice ip ni ic) ∧ Kept w wx)
  case atStart => exact ⟨1, rfl, rfl, Nat.le_refl _, by omega, A0, K0⟩
  case round =>
   obtain ⟨i, rfl, hg, hi1, hin, A, K⟩ := hrel
   clear A0 K0
   obtain ⟨a0, a1, a2, a3⟩ := A.cs
   by_cases h1 : i < nk
   · have h1' : (i : Int) < (nk : Int) := by omega
     obtain ⟨p, hp⟩ : ∃ p : Nat, i = p + 1 := ⟨i - 1, by omega⟩
     obtain ⟨k, hk⟩ : ∃ k, x.ks[i]? = some k := ⟨_, List.getElem?_eq_getElem (by rw [HV.out.nk]; exact h1)⟩
     obtain ⟨j, hj⟩ : ∃ j, x.ks[p]? = some j := ⟨_, List.getElem?_eq_getElem (by rw [HV.out.nk]; omega)⟩
     have hless : Op.bytesLess j.toList k.toList = true := up_at HU.out (by omega) hj hk
     obtain ⟨pb, po, rfl, hpc⟩ := HV.out.k.some (by omega)
     have s0 := (K.drew).cell (hpc _ _ (kcl_at hk))
     have s1 := (K.drew).cell (hpc _ _ (kcl_at hj))
     have u1 : IntKind.i64.wrap ((i : Int) - 1) = (p : Int) := by rw [IntKind.wrap_i64]; omega
     have hpn : (p : Int) < (nk : Int) := by omega
     have HP : Hid (i = p + 1) := hp
     obtain ⟨d0, d1, d2, d3⟩ := A.drew.cs
     clear hk hj hpc hp
     go_wp2_with fail
     go_region_held3 (fun W => W.cell? ⟨w.heap.size, 1, none⟩ = some (.slice (some ⟨pb, po, none⟩) nk kc) ∧ W.cell? ⟨pb, po + p, none⟩ = some (.string j) ∧ W.cell? ⟨pb, po + i, none⟩ = some (.string k)) (go_keep) (fail)
     go_wp2
     go_roundg (nk + 1 - (i + 1))
     case measure => rw [hg.out]; omega
     case rel => exact ⟨i + 1, by go_num, rfl, by omega, by omega, A.drew, K.drew⟩
   · have h1' : ¬ ((i : Int) < (nk : Int)) := by omega
     clear hg
     go_wp2
     go_loopg [28] nv (fun gg v wx => ∃ i : Nat, v = .int .i64 (i : Nat) ∧ Hid (gg = nv - i) ∧ i ≤ nv ∧ Kept w wx)
     case atStart => exact ⟨0, rfl, rfl, Nat.zero_le _, K⟩
     case round =>
      clear K A a0 a1 a2 a3 hin h1 h1' hi1
      obtain ⟨i, rfl, hg, hin, K⟩ := hrel
      by_cases h1 : i < nv
      · have h1' : (i : Int) < (nv : Int) := by omega
        obtain ⟨v, hv⟩ : ∃ v, x.vs[i]? = some v := ⟨_, List.getElem?_eq_getElem (by rw [HV.out.nv]; exact h1)⟩
        have hov := HO.out v (List.mem_of_getElem? hv)
        obtain ⟨pb, po, rfl, hpc⟩ := HV.out.v.some (by omega)
        obtain ⟨t0, t1, t2⟩ := vcl_at hv
        have s0 := K.cell (hpc _ _ t0)
        have s1 := K.cell (hpc _ _ t1)
        have s2 := K.cell (hpc _ _ t2)
        rw [← Nat.add_assoc] at s1 s2
        obtain ⟨d, p, ln⟩ := v
        clear hv hpc t0 t1 t2
        rcases hov with ⟨e1, e2, e3⟩ | ⟨e1, p', l', e2, e3, e4, e5, e6⟩
        · simp only at e1 e2
          subst e1; subst e2
          go_wp2
          go_roundg (nv - (i + 1))
          case measure => rw [hg.out]; omega
          case rel => exact ⟨i + 1, by go_num, rfl, by omega, K.alloc _⟩
        · simp only at e2 e4
          subst e2; subst e4
          have y1 : (0 : Int) ≤ (p' : Int) := by omega
          have y2 : ¬ ((l' : Int) ≤ 48) := by omega
          go_wp2
          go_roundg (nv - (i + 1))
          case measure => rw [hg.out]; omega
          case rel => exact ⟨i + 1, by go_num, rfl, by omega, K.alloc _⟩
      · obtain rfl : nv = i := by omega
        have h1' : ¬ ((nv : Int) < (nv : Int)) := by omega
        go_wp2
        go_ret
        exact ⟨rfl, K⟩

theorem Rw.other {W W' : World} {b : Nat} {t : TypeId} {x0 : Bool} {q1 q2 q3 : Option Addr} {n1 c1 n2 c2 n3 c3 : Nat} (X : C4 W b t (.bool x0) (.slice q1 n1 c1) (.slice q2 n2 c2) (.slice q3 n3 c3)) (ho : ∀ k, k ≠ b → W'.heap[k]? = W.heap[k]?) {sz : Nat} {p : Option Addr} {n c : Nat} {cs : List Value} (h : Rw W sz p n c cs) (hcs : ∀ u ∈ cs, (∃ s, u = .string s) ∨ ∃ k i, u = .int k i) : Rw W' sz p n c cs := by
  refine ⟨h.len, h.le, h.cap, ?_⟩
  rcases h.out with h0 | ⟨pb, off, e, f⟩
  · exact .inl h0
  · refine .inr ⟨pb, off, e, fun j u hu => ?_⟩
    have hc := f j u hu
    have hne : pb ≠ b := by
      intro e
      subst e
      rw [cell_of_row W pb _ _ _ _ X.out] at hc
      have hm := Array.mem_of_getElem? hc
      simp at hm
      rcases hcs u (List.mem_of_getElem? hu) with ⟨s, rfl⟩ | ⟨k, i, rfl⟩
      · simp at hm
      · simp at hm
    rw [← hc]
    exact World.cell?_of_block (ho pb hne)
theorem Rx.other {W W' : World} {b : Nat} {x0 : Bool} {q1 q2 q3 : Option Addr} {n1 c1 n2 c2 n3 c3 : Nat} (X : C4 W b 121 (.bool x0) (.slice q1 n1 c1) (.slice q2 n2 c2) (.slice q3 n3 c3)) (ho : ∀ k, k ≠ b → W'.heap[k]? = W.heap[k]?) {e : TypeId} {p : Option Addr} {c : Nat} (h : Rx W e p c) (he : e ≠ 121) : Rx W' e p c := by
  refine ⟨fun g off ph hp => ?_, h.nil⟩
  obtain ⟨cs, fr, hb⟩ := h.typ g off ph hp
  refine ⟨cs, fr, (ho g ?_).trans hb⟩
  rintro rfl
  have hx := X.out
  rw [hb] at hx
  injection hx with hx
  injection hx with _ e2 _
  exact he e2
theorem NV.other {W W' : World} {b : Nat} {x0 : Bool} {q1 q2 q3 : Option Addr} {n1 c1 n2 c2 n3 c3 : Nat} (X : C4 W b 121 (.bool x0) (.slice q1 n1 c1) (.slice q2 n2 c2) (.slice q3 n3 c3)) (ho : ∀ k, k ≠ b → W'.heap[k]? = W.heap[k]?) {l : Bool} {kp : Option Addr} {nk kc : Nat} {vp : Option Addr} {nv vc : Nat} {ip : Option Addr} {ni ic : Nat} {x : Nd} (h : NV W l kp nk kc vp nv vc ip ni ic x) : NV W' l kp nk kc vp nv vc ip ni ic x := by
  refine ⟨h.hl, h.k.other X ho ?_, h.v.other X ho ?_, h.i.other X ho ?_, h.kx.other X ho (by decide), h.vx.other X ho (by decide), h.ix.other X ho (by decide)⟩
  · intro u hu; unfold kcl at hu; obtain ⟨s, _, rfl⟩ := List.mem_map.1 hu; exact .inl ⟨s, rfl⟩
  · intro u hu
    unfold vcl at hu
    obtain ⟨v, _, hm⟩ := List.mem_flatMap.1 hu
    simp [Vl.cells] at hm
    rcases hm with rfl | rfl | rfl
    · exact .inl ⟨_, rfl⟩
    · exact .inr ⟨_, _, rfl⟩
    · exact .inr ⟨_, _, rfl⟩
  · intro u hu; unfold icl at hu; obtain ⟨s, _, rfl⟩ := List.mem_map.1 hu; exact .inr ⟨_, s, rfl⟩

set_option maxHeartbeats 2000000 in
set_option maxRecDepth 100000 in
theorem get_walk {w : World} {x : Nd} (g : Good x) (h60 : x.ks.length ≤ 120) (hu : Up x.ks) (l : Bool) (hl : x.leaf = l) :
    Calls Tryz.prog 132 #[.string (bs x.put), .bool l] w fun e w' => ∃ kp nk kc vp nv vc ip ni ic, e = .returned (.tuple #[.agg #[.bool l, .slice kp nk kc, .slice vp nv vc, .slice ip ni ic], .int .i64 0]) ∧ NV w' l kp nk kc vp nv vc ip ni ic x ∧ Kept w w' ∧ Nw w.heap.size ip := by
  have HN : Hid (∀ W, Calls Tryz.prog 168 #[.string (bs x.put)] W fun e w' => e = .returned (.pointer (some ⟨W.heap.size, 0, none⟩)) ∧ Rd w' W.heap.size (bs x.put) 0 ∧ Kept W w') := fun W => new_walk _ W
  have HR : Hid (∀ W b, Rd W b (bs x.put) 0 → Calls Tryz.prog 167 #[.pointer (some ⟨b, 0, none⟩), .bool l] W fun e w' => ∃ kp nk kc vp nv vc ip ni ic, e = .returned (.tuple #[.agg #[.bool l, .slice kp nk kc, .slice vp nv vc, .slice ip ni ic], .int .i64 0]) ∧ NV w' l kp nk kc vp nv vc ip ni ic x ∧ Og b W w' ∧ Nw W.heap.size ip) := fun W b h => read_walk h g h60 l hl
  have HT : Hid (∀ (W : World) (kp : Option Addr) (nk kc : Nat) (vp : Option Addr) (nv vc : Nat) (ip : Option Addr) (ni ic : Nat), NV W l kp nk kc vp nv vc ip ni ic x → Calls Tryz.prog 169 #[.agg #[.bool l, .slice kp nk kc, .slice vp nv vc, .slice ip ni ic]] W fun e w' => e = .returned (.bool true) ∧ Kept W w') := fun W kp nk kc vp nv vc ip ni ic h => right_walk h hu g.ok (by have := h.nk; omega) (by
    have a := h.nv
    cases hx : x.leaf with
    | true => have := (g.lv hx).1; omega
    | false => rw [(g.li hx).2] at a; simp at a; omega)
  have K0 : Kept w (w.alloc (.cells #[.bool false, .slice none 0 0, .slice none 0 0, .slice none 0 0] 121)) := (Kept.refl w).alloc _
  have R0 := C4.alloc w 121 (.bool false) (.slice none 0 0) (.slice none 0 0) (.slice none 0 0)
  have S0 := size_alloc w (.cells #[.bool false, .slice none 0 0, .slice none 0 0, .slice none 0 0] 121)
  generalize bs x.put = s at *
  clear g hu hl h60
  go_enter Tryz.func132, Tryz.ntmps132
  go_wp2_with (first
    | (go_at_call 168
       (with_reducible refine (HN.out _).mono ?_)
       rintro e v1 ⟨rfl, r1, k1⟩
       rw [S0] at r1
       have R1 := R0.kept k1
       have K1 := K0.trans k1
       clear HN R0 K0 k1)
    | (go_at_call 167
       (with_reducible refine (HR.out _ _ r1).mono ?_)
       rintro e v2 ⟨kp, nk, kc, vp, nv, vc, ip, ni, ic, rfl, N2, o2, nw2⟩
       have nw3 : Hid (Nw w.heap.size ip) := nw2.mono K1.size
       clear nw2
       have R2 := R1.og o2 (by omega)
       have K2 := o2.kept K1 (by omega)
       have k3 := (Kept.refl v2).alloc (.cells #[.bool l, .slice kp nk kc, .slice vp nv vc, .slice ip ni ic] 121)
       have X3 := C4.alloc v2 121 (.bool l) (.slice kp nk kc) (.slice vp nv vc) (.slice ip ni ic)
       have N3 := N2.kept k3
       have R3 := R2.kept k3
       have K3 := K2.trans k3
       have z3 := R2.lt
       clear HR r1 R1 K1 o2 R2 K2 k3 N2)
    | (go_at_call 169
       (with_reducible refine (HT.out _ _ _ _ _ _ _ _ _ _ N3).mono ?_)
       rintro e v4 ⟨rfl, k4⟩
       have N4 := N3.kept k4
       have R4 := R3.kept k4
       have X4 := X3.kept k4
       have K4 := K3.trans k4
       obtain ⟨c0, c1, c2, c3⟩ := X4.cs
       obtain ⟨⟨g0, f0⟩, ⟨g1, f1⟩, ⟨g2, f2⟩, ⟨g3, f3⟩, hfin⟩ := ready4 R4.out (.bool l) (.slice kp nk kc) (.slice vp nv vc) (.slice ip ni ic)))
  have q1 : NV ((((v4.setCell ⟨w.heap.size, 0, none⟩ (.bool l)).setCell ⟨w.heap.size, 1, none⟩ (.slice kp nk kc)).setCell ⟨w.heap.size, 2, none⟩ (.slice vp nv vc)).setCell ⟨w.heap.size, 3, none⟩ (.slice ip ni ic)) l kp nk kc vp nv vc ip ni ic x := N4.other R4 (fun k hk => others4 v4 hk _ _ _ _)
  have q2 := K4.st4 (b := w.heap.size) (Nat.le_refl _) (.bool l) (.slice kp nk kc) (.slice vp nv vc) (.slice ip ni ic)
  generalize hW : ((((v4.setCell ⟨w.heap.size, 0, none⟩ (.bool l)).setCell ⟨w.heap.size, 1, none⟩ (.slice kp nk kc)).setCell ⟨w.heap.size, 2, none⟩ (.slice vp nv vc)).setCell ⟨w.heap.size, 3, none⟩ (.slice ip ni ic)) = WF at hfin q1 q2 ⊢
  refine bodyPost_ret (v := .tuple #[.agg #[.bool l, .slice kp nk kc, .slice vp nv vc, .slice ip ni ic], .int .i64 0]) ?_ rfl ⟨_, _, _, _, _, _, _, _, _, rfl, q1, q2, nw3.out⟩
  exact results_two (p := 4) (u := 5) (ty := 121) rfl _ _ w.heap.size 121 #[.bool l, .slice kp nk kc, .slice vp nv vc, .slice ip ni ic] (0, 0) _ rfl hfin Tryz.underlying121 rfl size121
end Go.Proofs.YtifeihnhkbagpaaGreatDoor.N
namespace Go.Proofs.YtifeihnhkbagpaaGreatDoor.T
open B (Pm Mk En R Ah Be Pf WfN con con_append con_leaf con_sep mem_con leafm fmN fm fm_some fm_kid pre post plc plc_le plc_above stpAt nodeAt_some R_none R_se R_e sl_asymm Wf)
open N (Nd Vl Up sl sl_trans sl_irrefl sl_total fnd isk)

def frm (k : ByteArray) (l : List En) : List En := l.filter fun e => !sl e.1 k
def abv (k : ByteArray) (Z : List Mk) : Nat := (Z.filter fun m => sl k m.1).length

structure Sek (l : List En) (Z : List Mk) (key : ByteArray) (x : Nd) (b : ByteArray) (last : Bool) : Prop where
  hd : (last = true ∧ frm key l = (x.ks.zip x.vs).drop (fnd key x.ks)) ∨ (last = false ∧ frm key l = (x.ks.zip x.vs).drop (fnd key x.ks) ++ frm b l ∧ abv b Z < abv key Z)
  lt : last = false → ∀ k ∈ x.ks, sl k b = true
  len : x.vs.length = x.ks.length
end Go.Proofs.YtifeihnhkbagpaaGreatDoor.T