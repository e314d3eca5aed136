/- Joined: TU. What is proved of the functions beneath BtreeNone. Conditions: those that each row names. -/
import Derived.Test.YtncfpjccfmolgaaGreatDoorZbi
namespace Go.Proofs.YtncfpjccfmolgaaGreatDoor.T
open Go.ChangeShapes Go.WideShapes Go.ChangeAt Go.RowKit
open B (path_zero stpAt fm Pm pt Stp plc Ext WfN us Lv Sg Pf Mk En R Tr Tree con path path_length path_pf path_next cA cC got path_got Wf)
open N (Nd NV NZ Nw Rw Rx Own Kept kcl vcl icl Vl C4 C3 Up blk fnd isk oldV)

theorem results_ctt {P : Program} {fn : Func} {p u v : Tmp} {ty : TypeId} (h : fn.results = #[.cell p ty, .tmp u, .tmp v]) (tmps : Array Value) (w : World) (g : Nat) (t : TypeId) (cs : Array Value) (fr : Nat × Nat) (d : TypeDesc)
    (hp : tmps.getD p undef = .pointer (some ⟨g, 0, none⟩)) (hg : w.heap[g]? = some (.cells cs t fr)) (hu : P.underlying ty = some d) (hd : (match d with | .struct _ | .array _ _ => true | _ => false) = true) (hi : (P.info? ty).map (·.size) = some cs.size) :
    (results fn tmps).run P w = .ok (.tuple #[.agg cs, tmps.getD u undef, tmps.getD v undef]) w := by
  have hp' : tmps[p]?.getD undef = .pointer (some ⟨g, 0, none⟩) := by rw [← hp]; simp
  simp only [results, h]
  simp [Result.andThen, hp', asAddr, run_loadVar_row w g t ty cs fr d hg hu hd hi]
theorem size33 : (Tryz.prog.info? 33).map (·.size) = some 3 := by kernel_rfl

set_option maxRecDepth 100000 in
set_option maxHeartbeats 1000000 in
theorem get_nil {w : World} {t p : Nat} {key : ByteArray} (hT : TAt w t p (-1)) :
    Calls Tryz.prog 14 #[.pointer (some ⟨t, 0, none⟩), .string key] w fun e w' => e = .returned (.tuple #[.agg #[.string ⟨#[]⟩, .int .i64 (-1), .int .i64 0], .bool false, .int .i64 0]) ∧ Kept w w' := by
  have K0 : Kept w (w.alloc (.cells #[.string ⟨#[]⟩, .int .i64 0, .int .i64 0] 33)) := (Kept.refl w).alloc _
  have R0 := C3.alloc w 33 (.string ⟨#[]⟩) (.int .i64 0) (.int .i64 0)
  have f1 := none_walk (hT.kept K0)
  have f2 := way_nil (key := key) (hT.kept K0)
  have f3 := end_nil (w.alloc (.cells #[.string ⟨#[]⟩, .int .i64 0, .int .i64 0] 33))
  have f4 : Hid (∀ W : World, Calls Tryz.prog 33 #[.slice none 0 0, .string key] W fun e w' => e = .returned (.tuple #[.int .i64 0, .bool false]) ∧ w' = W) := fun W => by
    have := N.find_walk (w := W) (p := none) (n := 0) (c := 0) (ks := []) ⟨rfl, Nat.le_refl _, Nat.zero_le _, .inl ⟨rfl, rfl⟩⟩ (by omega) key
    exact this
  clear hT
  go_enter Tryz.func14, Tryz.ntmps14
  go_wp2_with (first
    | (go_at_call 26; (with_reducible refine f1.mono ?_); rintro e w1 ⟨rfl, hw1⟩; rw [hw1]; clear hw1 f1)
    | (go_at_call 28; (with_reducible refine f2.mono ?_); rintro e w1 ⟨rfl, hw1⟩; rw [hw1]; clear hw1 f2)
    | (go_at_call 30; (with_reducible refine f3.mono ?_); rintro e w1 ⟨rfl, k1⟩; have ka : Kept w1 (w1.alloc (.cells #[.bool true, .slice none 0 0, .slice none 0 0, .slice none 0 0] 52)) := (Kept.refl _).alloc _; have K2 := (K0.trans k1).trans ka; have R2 := (R0.kept k1).kept ka; obtain ⟨x0, x1, x2, x3⟩ := (C4.alloc w1 52 (.bool true) (.slice none 0 0) (.slice none 0 0) (.slice none 0 0)).cs; obtain ⟨⟨g0, i0⟩, ⟨g1, i1⟩, ⟨g2, i2⟩, hfin⟩ := N.ready3 R2.out (.string ⟨#[]⟩) (.int .i64 (-1)) (.int .i64 0))
    | (go_at_call 33; (with_reducible refine (f4.out _).mono ?_); rintro e w2 ⟨rfl, hw2⟩; rw [hw2]; clear hw2))
  have q2 := K2.st3 (b := w.heap.size) (Nat.le_refl _) (.string ⟨#[]⟩) (.int .i64 (-1)) (.int .i64 0)
  generalize (((World.setCell _ ⟨w.heap.size, 0, none⟩ (.string ⟨#[]⟩)).setCell ⟨w.heap.size, 1, none⟩ (.int .i64 (-1))).setCell ⟨w.heap.size, 2, none⟩ (.int .i64 0)) = WF at hfin q2 ⊢
  refine bodyPost_ret (v := .tuple #[.agg #[.string ⟨#[]⟩, .int .i64 (-1), .int .i64 0], .bool false, .int .i64 0]) ?_ rfl ⟨rfl, q2⟩
  exact results_ctt (p := 4) (u := 5) (v := 6) (ty := 33) rfl _ _ w.heap.size 33 #[.string ⟨#[]⟩, .int .i64 (-1), .int .i64 0] (0, 0) _ rfl hfin Tryz.underlying33 rfl size33

set_option maxRecDepth 100000 in
set_option maxHeartbeats 1000000 in
theorem get_some {B : Nat} {w : World} {t p m d n : Nat} {root : Int} {M : Pm} {key : ByteArray} (hT : TAt w t p root) (hr : root = (n : Int)) (hV : Pv B w p m M) (hw : Wf M d n) (ho : (fm M d n).Pairwise R) (hd : d ≤ 10) :
    Calls Tryz.prog 14 #[.pointer (some ⟨t, 0, none⟩), .string key] w fun e w' => e = .returned (.tuple #[.agg #[.string (had key (con (fm M d n))).d, .int .i64 (had key (con (fm M d n))).p, .int .i64 (had key (con (fm M d n))).l], .bool (got key (con (fm M d n))).isSome, .int .i64 0]) ∧ Kept w w' := by
  subst hr
  have hpf := pf_of hw ho key
  have hwy := wy_of hpf (by omega)
  have hpl := path_length M key d n
  have K0 : Kept w (w.alloc (.cells #[.string ⟨#[]⟩, .int .i64 0, .int .i64 0] 33)) := (Kept.refl w).alloc _
  have R0 := C3.alloc w 33 (.string ⟨#[]⟩) (.int .i64 0) (.int .i64 0)
  have f1 := none_walk (hT.kept K0)
  have f2 := way_walk (hT.kept K0) (hV.kept K0) hwy (by omega) (fun s hs => by rw [path_zero] at hs; rw [← Option.some.inj hs]; rfl)
  obtain ⟨s, hs⟩ : ∃ s, (path M key d n)[d]? = some s := ⟨_, List.getElem?_eq_getElem (by omega)⟩
  obtain ⟨_, hps⟩ := path_pf d n [] [] hpf d s hs
  rw [Nat.sub_self] at hps
  have hg := path_got d n [] [] hpf s hs
  have hgood := hps.wf.good
  have hlv := (hgood.lv hps.wf.1).1
  have HS : Hid ((path M key d n)[d]? = some s) := hs
  have HG : Hid (N.Good s.x) := hgood
  have HLv : Hid (s.x.vs.length = s.x.ks.length) := hlv
  have HPl : Hid ((path M key d n).length = d + 1) := hpl
  have HD : Hid (d ≤ 10) := hd
  have HGt : Hid (got key (con (fm M d n)) = if isk key s.x.ks = true then some (oldV s.x.ks s.x.vs key) else none) := hg
  have HOl : Hid (isk key s.x.ks = true → s.x.vs[fnd key s.x.ks]? = some (had key (con (fm M d n))) ∧ (got key (con (fm M d n))).isSome = true) := fun h => by
    have hk := N.isk_lt h
    have e := HGt.out
    rw [if_pos h] at e
    have e2 : s.x.vs[fnd key s.x.ks]? = some (s.x.vs[fnd key s.x.ks]'(by have := HLv.out; omega)) := List.getElem?_eq_getElem (by have := HLv.out; omega)
    refine ⟨?_, by rw [e]; rfl⟩
    unfold had
    rw [e]
    show _ = some (oldV s.x.ks s.x.vs key)
    unfold oldV
    rw [if_pos h, e2]; rfl
  have HNo : Hid (isk key s.x.ks = false → had key (con (fm M d n)) = ⟨⟨#[]⟩, -1, 0⟩ ∧ (got key (con (fm M d n))).isSome = false) := fun h => by
    have e := HGt.out
    rw [if_neg (by rw [h]; decide)] at e
    unfold had
    rw [e]
    exact ⟨rfl, rfl⟩
  generalize had key (con (fm M d n)) = hv at HOl HNo ⊢
  generalize (got key (con (fm M d n))).isSome = hb at HOl HNo ⊢
  clear hpf hwy hs hps hg hgood hlv hw ho hV hT hd hpl
  generalize hlen : (path M key d n).length = len at f2 HPl
  have HLen : Hid ((path M key d n).length = len) := hlen
  clear hlen
  go_enter Tryz.func14, Tryz.ntmps14
  go_wp2_with (first
    | (go_at_call 26; (with_reducible refine f1.mono ?_); rintro e w1 ⟨rfl, hw1⟩; rw [hw1]; clear hw1 f1)
    | (go_at_call 28; (with_reducible refine f2.mono ?_); rintro e w1 ⟨q, c, L, rfl, hLP, hW, k1⟩; clear f2))
  obtain ⟨z, hz, hzs⟩ : ∃ z, L[d]? = some z ∧ z.stp = s := by
    have := HS.out
    rw [← hLP, List.getElem?_map] at this
    cases hz : L[d]? with
    | none => rw [hz] at this; cases this
    | some z => rw [hz] at this; exact ⟨z, rfl, Option.some.inj this⟩
  have f3 := end_walk (k := d) hW (by have := HD.out; omega) HPl.out hz
  have NZ1 := hW.ok z (List.mem_of_getElem? hz)
  obtain ⟨zp, zk, zl, zkp, znk, zkc, zvp, znv, zvc, zip, zni, zic, zx⟩ := z
  dsimp only [Sm.ok] at NZ1 f3
  have ezx : zx = s.x := by rw [← hzs]; rfl
  subst ezx
  have K1 := K0.trans k1
  have R1 := R0.kept k1
  have hfw := HG.out.few
  have enk := NZ1.nk
  have env := NZ1.nv
  have hfl := N.fnd_le key s.x.ks
  have HN1 : Hid (NV w1 zl zkp znk zkc zvp znv zvc zip zni zic s.x) := NZ1
  have HNk : Hid (s.x.ks.length = znk ∧ s.x.vs.length = znv) := ⟨enk, env⟩
  have f4 : Hid (∀ W, Kept w1 W → Calls Tryz.prog 33 #[.slice zkp znk zkc, .string key] W fun e w' => e = .returned (.tuple #[.int .i64 (fnd key s.x.ks : Nat), .bool (isk key s.x.ks)]) ∧ w' = W) := fun W k => N.find_walk ((HN1.out.kept k).k) (by omega) key
  have HF : Hid (fnd key s.x.ks ≤ s.x.ks.length ∧ s.x.ks.length ≤ 120) := ⟨hfl, hfw⟩
  generalize fnd key s.x.ks = i at f4 HF HOl
  clear NZ1 enk env hfl hfw hW hLP hz hzs k1
  cases hik : isk key s.x.ks with
  | false =>
    obtain ⟨rfl, rfl⟩ := HNo.out hik
    rw [hik] at f4
    clear HNo HOl
    go_wp2_with (first
      | (go_at_call 30; (with_reducible refine f3.mono ?_); rintro e w2 ⟨rfl, k2⟩; have ka : Kept w2 (w2.alloc (.cells #[.bool zl, .slice zkp znk zkc, .slice zvp znv zvc, .slice zip zni zic] 52)) := (Kept.refl _).alloc _; have K2 := (K1.trans k2).trans ka; have k12 := k2.trans ka; have R2 := R1.kept k12; obtain ⟨x0, x1, x2, x3⟩ := (C4.alloc w2 52 (.bool zl) (.slice zkp znk zkc) (.slice zvp znv zvc) (.slice zip zni zic)).cs; obtain ⟨⟨g0, i0⟩, ⟨g1, i1⟩, ⟨g2, i2⟩, hfin⟩ := N.ready3 R2.out (.string ⟨#[]⟩) (.int .i64 (-1)) (.int .i64 0); clear f3)
      | (go_at_call 33; (with_reducible refine (f4.out _ k12).mono ?_); rintro e w3 ⟨rfl, hw3⟩; rw [hw3]; clear hw3 f4))
    have q2 := K2.st3 (b := w.heap.size) (Nat.le_refl _) (.string ⟨#[]⟩) (.int .i64 (-1)) (.int .i64 0)
    generalize (((World.setCell _ ⟨w.heap.size, 0, none⟩ (.string ⟨#[]⟩)).setCell ⟨w.heap.size, 1, none⟩ (.int .i64 (-1))).setCell ⟨w.heap.size, 2, none⟩ (.int .i64 0)) = WF at hfin q2 ⊢
    refine bodyPost_ret (v := .tuple #[.agg #[.string ⟨#[]⟩, .int .i64 (-1), .int .i64 0], .bool false, .int .i64 0]) ?_ rfl ⟨rfl, q2⟩
    exact results_ctt (p := 4) (u := 5) (v := 6) (ty := 33) rfl _ _ w.heap.size 33 #[.string ⟨#[]⟩, .int .i64 (-1), .int .i64 0] (0, 0) _ rfl hfin Tryz.underlying33 rfl size33
  | true =>
    obtain ⟨hvs, rfl⟩ := HOl.out hik
    rw [hik] at f4
    clear HNo HOl
    have hilt := (List.getElem?_eq_some_iff.1 hvs).1
    obtain ⟨vb, vo, rfl, _⟩ := HN1.out.v.some (by have := HNk.out; omega)
    have HVs : Hid (s.x.vs[i]? = some hv) := hvs
    have i3 : (i : Int) < (znv : Int) := by have := HNk.out; omega
    obtain ⟨hvd, hvp, hvl⟩ := hv
    have cells : Hid (∀ W, Kept w1 W → W.cell? ⟨vb, vo + i * 3, none⟩ = some (.string hvd) ∧ W.cell? ⟨vb, vo + i * 3 + 1, none⟩ = some (.int .i64 hvp) ∧ W.cell? ⟨vb, vo + i * 3 + 2, none⟩ = some (.int .i64 hvl)) := fun W k => by
      have rr := (HN1.out.kept k).v
      obtain ⟨c1, c2, c3⟩ := N.vcl_at HVs.out
      rcases rr.out with ⟨h0, _⟩ | ⟨b, off, e, f⟩
      · cases h0
      injection e with e
      injection e with e1 e2
      subst e1; subst e2
      exact ⟨f _ _ c1, f _ _ c2, f _ _ c3⟩
    clear hvs hilt
    go_wp2_with (first
      | (go_at_call 30; (with_reducible refine f3.mono ?_); rintro e w2 ⟨rfl, k2⟩; have ka : Kept w2 (w2.alloc (.cells #[.bool zl, .slice zkp znk zkc, .slice (some ⟨vb, vo, none⟩) znv zvc, .slice zip zni zic] 52)) := (Kept.refl _).alloc _; have K2 := (K1.trans k2).trans ka; have k12 := k2.trans ka; have R2 := R1.kept k12; obtain ⟨x0, x1, x2, x3⟩ := (C4.alloc w2 52 (.bool zl) (.slice zkp znk zkc) (.slice (some ⟨vb, vo, none⟩) znv zvc) (.slice zip zni zic)).cs; obtain ⟨u0, u1, u2⟩ := cells.out _ k12; obtain ⟨⟨g0, i0⟩, ⟨g1, i1⟩, ⟨g2, i2⟩, hfin⟩ := N.ready3 R2.out (.string hvd) (.int .i64 hvp) (.int .i64 hvl); clear f3)
      | (go_at_call 33; (with_reducible refine (f4.out _ k12).mono ?_); rintro e w3 ⟨rfl, hw3⟩; rw [hw3]; clear hw3 f4))
    have q2 := K2.st3 (b := w.heap.size) (Nat.le_refl _) (.string hvd) (.int .i64 hvp) (.int .i64 hvl)
    generalize (((World.setCell _ ⟨w.heap.size, 0, none⟩ (.string hvd)).setCell ⟨w.heap.size, 1, none⟩ (.int .i64 hvp)).setCell ⟨w.heap.size, 2, none⟩ (.int .i64 hvl)) = WF at hfin q2 ⊢
    refine bodyPost_ret (v := .tuple #[.agg #[.string hvd, .int .i64 hvp, .int .i64 hvl], .bool true, .int .i64 0]) ?_ rfl ⟨rfl, q2⟩
    exact results_ctt (p := 4) (u := 5) (v := 6) (ty := 33) rfl _ _ w.heap.size 33 #[.string hvd, .int .i64 hvp, .int .i64 hvl] (0, 0) _ rfl hfin Tryz.underlying33 rfl size33

/-- Get, of a tree that can be read. -/
theorem get_tree {B : Nat} {w : World} {t p m : Nat} {root : Int} {M : Pm} {l : List En} (key : ByteArray) (hT : TAt w t p root) (hV : Pv B w p m M) (h : TreeW M root l) :
    Calls Tryz.prog 14 #[.pointer (some ⟨t, 0, none⟩), .string key] w fun e w' => e = .returned (.tuple #[.agg #[.string (had key l).d, .int .i64 (had key l).p, .int .i64 (had key l).l], .bool (got key l).isSome, .int .i64 0]) ∧ Kept w w' := by
  rcases h.out with ⟨rfl, rfl⟩ | ⟨d, n, hr, hd, hw, ho, rfl⟩
  · exact get_nil hT
  · exact get_some hT hr hV hw ho hd
end Go.Proofs.YtncfpjccfmolgaaGreatDoor.T
