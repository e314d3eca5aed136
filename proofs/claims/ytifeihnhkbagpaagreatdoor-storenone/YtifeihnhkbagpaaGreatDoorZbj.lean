/- Joined: XC XE XF XG XH. What is proved of the functions beneath StoreNone. Conditions: those that each row names. -/
import Derived.Test.YtifeihnhkbagpaaGreatDoorZbh
import Derived.Test.YtifeihnhkbagpaaGreatDoorZbi
import Derived.Laws.EntriesVeiled
import Derived.Deep.RegionHeld3
import Derived.Deep.DrawnRows
namespace Go.Proofs.YtifeihnhkbagpaaGreatDoor.T
open Go.ChangeShapes Go.WideShapes Go.ChangeAt Go.RowKit
open B (Pm)
open N (Nd NV Rw Rx Own Kept vcl Vl C4 C3 Up)

theorem markText_none (W : World) (s : Option Addr) (d : ByteArray) (l : Int) :
    Calls Tryz.prog 75 #[.pointer s, .agg #[.string d, .int .i64 (-1), .int .i64 l]] W fun e w' => e = .returned (.int .i64 0) ∧ Kept W w' := by
  have ka : Kept W (W.alloc (.cells #[.string d, .int .i64 (-1), .int .i64 l] 77)) := (Kept.refl W).alloc _
  obtain ⟨x0, x1, x2⟩ := (C3.alloc W 77 (.string d) (.int .i64 (-1)) (.int .i64 l)).cs
  go_enter Tryz.func75, Tryz.ntmps75
  go_wp2
  go_ret
  exact ⟨rfl, ka⟩

theorem calm186 : G.Calm 186 := by unfold G.Calm D.Calm; decide
theorem infoN : (Tryz.prog.info? 3).map (fun i => (i.zero, i.size, i.bytes)) = some (some (.int .i64 0), 1, 8) := by kernel_rfl

abbrev askV (s : Nat) : Value := .func (.func 75) #[.pointer (some ⟨s, 0, none⟩)] #[]

set_option maxRecDepth 100000 in
set_option maxHeartbeats 4000000 in
theorem through_one {B S : Nat} {I : World → Prop} {w0 W : World} {t p s bw bm : Nat} {root : Int} {M : Pm} (Rd0 : Rdr B S p I M) (hB : B ≤ w0.heap.size) (hT : TAt W t p root) (hC : Ct B S I w0 W) (H : C4 W bw 186 (.pointer (some ⟨t, 0, none⟩)) (askV s) (.map (some bm)) (.slice none 0 0)) (hM : MS W bm (fun _ => false)) (hS : S ≤ bm) (hbw : w0.heap.size ≤ bw) (hbm : w0.heap.size ≤ bm)
    {n : Nat} {y : Nd} (hy : M n = some y) (hg : N.Good y) (hu : Up y.ks) (hl : y.leaf = true) (hv : ∀ v ∈ y.vs, v.p = -1) (hn : n < 1024) :
    Calls Tryz.prog 105 #[.pointer (some ⟨bw, 0, none⟩), .int .i64 (n : Nat)] W fun e w' => e = .returned (.int .i64 0) ∧ (∃ q c, C4 w' bw 186 (.pointer (some ⟨t, 0, none⟩)) (askV s) (.map (some bm)) (.slice q 1 c) ∧ Rw w' 1 q 1 c [.int .i64 (n : Nat)]) ∧ Ct B S I w0 w' := by
  obtain ⟨i3, hi3, hz0, hz1, hz2⟩ := info_parts infoN
  have hi := (hg.lv hl).2
  obtain ⟨c0, c1, c2, c3⟩ := H.cs
  have hlk := hM.look n (by omega)
  have k1 : Kept W (W.alloc (.cells #[] 227)) := (Kept.refl W).alloc _
  have H1 := H.kept k1
  have M1 : MS (W.alloc (.cells #[] 227)) bm (fun _ => false) := hM.same (k1.out.block _ hM.lt)
  obtain ⟨es, cc, hmap⟩ := M1.block
  obtain ⟨W2, hupd, m2, o2⟩ := M1.store n hn
  have C2 := (hC.kept Rd0.stay hB k1).one Rd0.stay hB o2 hmap hS hbm
  have H2 : C4 W2 bw 186 (.pointer (some ⟨t, 0, none⟩)) (askV s) (.map (some bm)) (.slice none 0 0) := ⟨(o2.block _ (G.map_ne H1.out hmap)).trans H1.out⟩
  have T2 : TAt W2 t p root := ⟨(o2.block _ (G.map_ne (hT.kept k1).out hmap)).trans (hT.kept k1).out⟩
  obtain ⟨d0, d1, d2, d3⟩ := H1.cs
  obtain ⟨e0, e1, e2, e3⟩ := H2.cs
  have HN := node_by Rd0 T2 C2.i (Nat.le_trans hB C2.size) hy hg hu true hl
  have HC2 : Hid (Ct B S I w0 W2) := C2
  have HH2 : Hid (C4 W2 bw 186 (.pointer (some ⟨t, 0, none⟩)) (askV s) (.map (some bm)) (.slice none 0 0)) := H2
  have HVs : Hid (y.is = []) := hi
  have HV1 : Hid (∀ v ∈ y.vs, v.p = -1) := hv
  have HFew : Hid (y.vs.length ≤ 120) := by have a := (hg.lv hl).1; have b := hg.few; show _ ≤ _; omega
  have HB : Hid (B ≤ w0.heap.size ∧ w0.heap.size ≤ bw) := ⟨hB, hbw⟩
  have HSt : Hid (Stay S I) := Rd0.stay
  clear hT hC hM H H1 M1 hmap m2 o2 C2 H2 T2 hy hg hu hl hi hv k1 Rd0 hB hS hbw hbm
  go_enter Tryz.func105, Tryz.ntmps105
  go_wp2_with (go_at_call 94; (with_reducible refine HN.mono ?_); rintro e w3 ⟨kp, nk, kc, vp, nv, vc, ip, ni, ic, rfl, N3, k3, nw3⟩; have k4 : Kept w3 (w3.alloc (.cells #[.bool true, .slice kp nk kc, .slice vp nv vc, .slice ip ni ic] 121)) := (Kept.refl w3).alloc _; have N4 := N3.kept k4; have X4 := C4.alloc w3 121 (.bool true) (.slice kp nk kc) (.slice vp nv vc) (.slice ip ni ic); obtain ⟨y0, y1, y2, y3⟩ := X4.cs; have C4' := (HC2.out.trans k3).kept HSt.out HB.out.1 k4; have H4 := (c4_cal HH2.out k3.f.on calm186).kept k4; clear HN N3 nw3 k3 k4)
  have hnv : y.vs.length = nv := by have := N4.v.len; rw [N.vcl_length] at this; omega
  have hni : ni = 0 := by have := N4.i.len; rw [N.icl_length, HVs.out] at this; simp at this; omega
  subst hni
  have RV := N4.v
  have hX4 := X4.out
  generalize w3.alloc (.cells #[.bool true, .slice kp nk kc, .slice vp nv vc, .slice ip 0 ic] 121) = W4 at *
  have hhb : Hid (W4.heap[w3.heap.size]? = some (.cells #[.bool true, .slice kp nk kc, .slice vp nv vc, .slice ip 0 ic] 121)) := hX4
  have HC4 : Hid (Ct B S I w0 W4) := C4'
  have HH4 : Hid (C4 W4 bw 186 (.pointer (some ⟨t, 0, none⟩)) (askV s) (.map (some bm)) (.slice none 0 0)) := H4
  have HRV : Hid (Rw W4 3 vp nv vc (vcl y.vs)) := RV
  have HNV : Hid (y.vs.length = nv) := hnv
  have hnv120 : nv ≤ 120 := by have := HFew.out; omega
  clear hnv C4' H4 RV N4 X4 hX4 HC2 HH2 HVs
  go_loopg [46] nv (fun gg iv wx => ∃ i : Nat, iv = .int .i64 (i : Nat) ∧ Hid (gg = nv - i) ∧ i ≤ nv ∧ Hid (Kept W4 wx))
  case atStart => exact ⟨0, rfl, rfl, Nat.zero_le _, Kept.refl _⟩
  case round =>
    obtain ⟨i, rfl, hgk, hin, KI⟩ := hrel
    have hbx := KI.out.block hhb.out
    obtain ⟨z0, z1, z2, z3⟩ := (C4.mk hbx).cs
    by_cases h1 : (i : Int) < (nv : Int)
    · obtain ⟨v, hv⟩ : ∃ v, y.vs[i]? = some v := ⟨_, List.getElem?_eq_getElem (by rw [HNV.out]; omega)⟩
      have hvp := HV1.out v (List.mem_of_getElem? hv)
      obtain ⟨vd, vq, vl⟩ := v
      dsimp only at hvp
      subst hvp
      obtain ⟨vb, vo, rfl, hv0, hv1, hv2⟩ : ∃ vb vo, vp = some ⟨vb, vo, none⟩ ∧ wr.cell? ⟨vb, vo + i * 3, none⟩ = some (.string vd) ∧ wr.cell? ⟨vb, vo + i * 3 + 1, none⟩ = some (.int .i64 (-1)) ∧ wr.cell? ⟨vb, vo + i * 3 + 2, none⟩ = some (.int .i64 vl) := by
        rcases HRV.out.out with ⟨_, h0⟩ | ⟨ib, io, e, hh⟩
        · omega
        · have hcell : ∀ j u, (vcl y.vs)[j]? = some u → wr.cell? ⟨ib, io + j, none⟩ = some u := fun j u hu => KI.out.cell (hh j u hu)
          obtain ⟨a0, a1, a2⟩ := N.vcl_at hv
          exact ⟨ib, io, e, hcell _ _ a0, by have := hcell _ _ a1; rwa [← Nat.add_assoc] at this, by have := hcell _ _ a2; rwa [← Nat.add_assoc] at this⟩
      have ka : Kept wr (wr.alloc (.cells #[.string vd, .int .i64 (-1), .int .i64 vl] 77)) := (Kept.refl wr).alloc _
      have HKA : Hid (Kept W4 (wr.alloc (.cells #[.string vd, .int .i64 (-1), .int .i64 vl] 77))) := KI.out.trans ka
      have X3 := C3.alloc wr 77 (.string vd) (.int .i64 (-1)) (.int .i64 vl)
      clear hv hbx z0 z1 z2 z3 KI
      go_upto_region 11 with fail
      go_cut [11] from 50 to 56 (fun rv wx => rv = .int .i64 0 ∧ Hid (Kept W4 wx))
      case first =>
        have HSA : Hid (∀ W', Kept (wr.alloc (.cells #[.string vd, .int .i64 (-1), .int .i64 vl] 77)) W' → W'.cell? ⟨bw, 1, none⟩ = some (askV s) ∧ W'.cell? ⟨wr.heap.size, 0, none⟩ = some (.string vd) ∧ W'.cell? ⟨wr.heap.size, 1, none⟩ = some (.int .i64 (-1)) ∧ W'.cell? ⟨wr.heap.size, 2, none⟩ = some (.int .i64 vl)) := fun W' hW => by
          have h1 := ((HH4.out.kept HKA.out).kept hW).cs.2.1
          obtain ⟨h2, h3, h4⟩ := (X3.kept hW).cs
          exact ⟨h1, h2, h3, h4⟩
        have KD : Kept (wr.alloc (.cells #[.string vd, .int .i64 (-1), .int .i64 vl] 77)) (wr.alloc (.cells #[.string vd, .int .i64 (-1), .int .i64 vl] 77)).drew := (Kept.refl _).drew
        have fe := markText_none ((wr.alloc (.cells #[.string vd, .int .i64 (-1), .int .i64 vl] 77)).drew) (some ⟨s, 0, none⟩) vd vl
        clear X3 ka
        go_region_held3 (fun W' => W'.cell? ⟨bw, 1, none⟩ = some (.func (.func 75) #[.pointer (some ⟨s, 0, none⟩)] #[]) ∧ W'.cell? ⟨wr.heap.size, 0, none⟩ = some (.string vd) ∧ W'.cell? ⟨wr.heap.size, 1, none⟩ = some (.int .i64 (-1)) ∧ W'.cell? ⟨wr.heap.size, 2, none⟩ = some (.int .i64 vl)) (exact HSA.out _ (by assumption)) (first
          | (go_at_call 75; (with_reducible refine fe.mono ?_); rintro e v1 ⟨rfl, g1⟩; have J1 := KD.trans g1; clear g1 KD fe))
        all_goals (go_wp2_with fail)
        all_goals go_meet
        all_goals exact ⟨rfl, HKA.out.trans J1⟩
      case rest =>
        obtain ⟨rfl, K5⟩ := hcut
        clear HKA ka X3
        go_wp2
        go_roundg (nv - (i + 1))
        case measure => rw [hgk.out]; omega
        case rel => exact ⟨i + 1, by go_num, rfl, by omega, K5⟩
    · have ka : Kept wr (wr.alloc (.cells #[.int .i64 (n : Nat)] 3)) := (Kept.refl wr).alloc _
      have H5 := HH4.out.kept KI.out
      obtain ⟨q0, q1, q2, q3⟩ := H5.cs
      have C5 := (HC4.out.kept HSt.out HB.out.1 KI.out).kept HSt.out HB.out.1 ka
      have HC5 : Hid (Ct B S I w0 (wr.alloc (.cells #[.int .i64 (n : Nat)] 3))) := C5
      have H6 := H5.kept ka
      have HH6 : Hid (C4 (wr.alloc (.cells #[.int .i64 (n : Nat)] 3)) bw 186 (.pointer (some ⟨t, 0, none⟩)) (askV s) (.map (some bm)) (.slice none 0 0)) := H6
      clear KI hbx C5 H5
      go_upto_region 16 with fail
      refine wp_loop_rounds 1 ?_
      rw [rounds_succ]
      go_wp2_with (at_builtin; refine wpList_append_own _ rfl _ _ 94 rfl (wr.alloc (.cells #[.int .i64 (n : Nat)] 3)).heap.size 3 i3 (.int .i64 0) 1 8 Tryz.underlying94 hi3 hz0 hz1 hz2 rfl (by decide) (.slice none 0 0) 0 [] rfl (World.ownsRow_nil _ _ _ _) _ 1 1 [.int .i64 (n : Nat)] rfl rfl (N.one_cell _ _ _) (N.one_one _ _) (by unfold maxLen; omega) (by omega) (Nat.le_refl _) ?_; intro v' w5 hown hgrow _; obtain ⟨q, c, rfl⟩ := owns_shape hown; have O5 : Own w5 (wr.alloc (.cells #[.int .i64 (n : Nat)] 3)).heap.size 3 1 q 1 c [.int .i64 (n : Nat)] := ⟨hown⟩; have H7 : C4 w5 bw 186 (.pointer (some ⟨t, 0, none⟩)) (askV s) (.map (some bm)) (.slice none 0 0) := HH6.out.grown hgrow (by simp [Value.ownBlock]); have C7 := HC5.out.grown HSt.out HB.out.1 hgrow (fun b e => by simp [Value.ownBlock] at e); obtain ⟨r0, r1, r2, r3⟩ := H7.cs; have rf := H7.fz 3; have H8 := H7.set3 (.slice q 1 c); have O8 := O5.far ⟨bw, 3, none⟩ (.slice q 1 c) HH6.out.lt; have C8 := C7.grown HSt.out HB.out.1 (W' := w5.setCell ⟨bw, 3, none⟩ (.slice q 1 c)) (r := some bw) ⟨rfl, rfl, rfl, by simp, fun k _ hk => heap_setCell_other _ ⟨bw, 3, none⟩ k _ (fun e => hk (by rw [e]))⟩ (fun b e => by injection e with e; subst e; exact ⟨HB.out.2, _, _, _, H7.out, by unfold Pgt; decide⟩); have HFin : Hid ((∃ q c, C4 (w5.setCell ⟨bw, 3, none⟩ (.slice q 1 c)) bw 186 (.pointer (some ⟨t, 0, none⟩)) (askV s) (.map (some bm)) (.slice q 1 c) ∧ Rw (w5.setCell ⟨bw, 3, none⟩ (.slice q 1 c)) 1 q 1 c [.int .i64 (n : Nat)]) ∧ True) := ⟨⟨q, c, H8, O8.rw⟩, trivial⟩; have HC8 : Hid (Ct B S I w0 (w5.setCell ⟨bw, 3, none⟩ (.slice q 1 c))) := C8; have HH8 : Hid (C4 (w5.setCell ⟨bw, 3, none⟩ (.slice q 1 c)) bw 186 (.pointer (some ⟨t, 0, none⟩)) (askV s) (.map (some bm)) (.slice q 1 c) ∧ Rw (w5.setCell ⟨bw, 3, none⟩ (.slice q 1 c)) 1 q 1 c [.int .i64 (n : Nat)]) := ⟨H8, O8.rw⟩; clear hown hgrow O5 C7 H8 O8 C8 HFin H7)
      go_ret
      exact ⟨rfl, ⟨q, c, HH8.out.1, HH8.out.2⟩, HC8.out⟩

theorem run_ask_nil (d : Nat) (f : Fn) (a c : Array Value) (W : World) : (Op.equalIn (d + 1) 141 (.func f a c) .nilFunc).run Tryz.prog W = .ok false W := by
  simp [Op.equalIn, run_underlying Tryz.underlying141]

set_option maxRecDepth 100000 in
set_option maxHeartbeats 2000000 in
theorem pages_one {B S : Nat} {I : World → Prop} {w : World} {t p s : Nat} {M : Pm} (Rd0 : Rdr B S p I M) (hB : B ≤ w.heap.size) (hS : S ≤ w.heap.size) {n : Nat} (hT : TAt w t p (n : Nat)) (hI : I w) {y : Nd} (hy : M n = some y) (hg : N.Good y) (hu : Up y.ks) (hl : y.leaf = true) (hv : ∀ v ∈ y.vs, v.p = -1) (hn : n < 1024) :
    Calls Tryz.prog 74 #[.pointer (some ⟨t, 0, none⟩), askV s] w fun e w' => (∃ q c, e = .returned (.tuple #[.slice q 1 c, .int .i64 0]) ∧ Rw w' 1 q 1 c [.int .i64 (n : Nat)]) ∧ Ct B S I w w' := by
  have fr := root_walk hT
  have hneg : ¬ (n : Int) = -1 := by omega
  have mk : ∀ W : World, (Instr.makeMap 184 none).run Tryz.prog W = .ok (.map (some W.heap.size)) (W.alloc (.map #[] 0)) := fun W => rfl
  obtain ⟨W3, hW3⟩ : ∃ W3, (w.alloc (.map #[] 0)).alloc (.cells #[.pointer (some ⟨t, 0, none⟩), askV s, .map (some w.heap.size), .slice none 0 0] 186) = W3 := ⟨_, rfl⟩
  have kl : Kept (w.alloc (.map #[] 0)) W3 := by rw [← hW3]; exact (Kept.refl _).alloc _
  have k3 : Kept w W3 := ((Kept.refl w).alloc _).trans kl
  have c4 : C4 W3 (w.heap.size + 1) 186 (.pointer (some ⟨t, 0, none⟩)) (askV s) (.map (some w.heap.size)) (.slice none 0 0) := ⟨by
    rw [← hW3]
    have := heap_alloc_new (w.alloc (.map #[] 0)) (.cells #[.pointer (some ⟨t, 0, none⟩), askV s, .map (some w.heap.size), .slice none 0 0] 186)
    rwa [N.size_alloc] at this⟩
  have ms0 := MS.made w
  have ms3 : MS W3 w.heap.size (fun _ => false) := ms0.same (kl.out.block _ ms0.lt)
  have fth := through_one (s := s) Rd0 hB (hT.kept k3) ((Ct.start hI).kept Rd0.stay hB k3) c4 ms3 hS (Nat.le_succ _) (Nat.le_refl _) hy hg hu hl hv hn
  have hnf : ∀ W : World, (Go.binOp .eql 141 (.func (.func 75) #[.pointer (some ⟨s, 0, none⟩)] #[]) .nilFunc).run Tryz.prog W = .ok (.bool false) W := fun W => by
    simp only [Go.binOp]
    have : (Op.equal 141 (.func (.func 75) #[.pointer (some ⟨s, 0, none⟩)] #[]) .nilFunc).run Tryz.prog W = .ok false W := run_ask_nil 9999 _ _ _ W
    simp [this]
  have HW3 : Hid ((w.alloc (.map #[] 0)).alloc (.cells #[.pointer (some ⟨t, 0, none⟩), .func (.func 75) #[.pointer (some ⟨s, 0, none⟩)] #[], .map (some w.heap.size), .slice none 0 0] 186) = W3) := hW3
  clear hW3 hT hI hy hg hu hl hv hn k3 kl c4 ms0 ms3 Rd0
  go_enter Tryz.func74, Tryz.ntmps74
  go_wp2_with (first
    | (go_at_call 36; (with_reducible refine fr.mono ?_); rintro e w1 ⟨rfl, hw1⟩; rw [hw1]; clear hw1 fr)
    | (go_at_call 105; rw [HW3.out]; (with_reducible refine fth.mono ?_); rintro e w5 ⟨rfl, ⟨q, c, H5, R5⟩, C5⟩; obtain ⟨q0, q1, q2, q3⟩ := H5.cs; have HF5 : Hid (Rw w5 1 q 1 c [.int .i64 (n : Nat)] ∧ Ct B S I w w5) := ⟨R5, C5⟩; clear H5 R5 C5 fth))
  go_ret2
  exact ⟨⟨q, c, rfl, HF5.out.1⟩, HF5.out.2⟩

structure StAt (W : World) (s d p t : Nat) (err : Int) (db : Bool) : Prop where
  out : W.heap[s]? = some (.cells #[.pointer (some ⟨d, 0, none⟩), .pointer (some ⟨p, 0, none⟩), .pointer (some ⟨t, 0, none⟩), .int .i64 err, .bool db] 74)
theorem StAt.cs {W : World} {s d p t : Nat} {err : Int} {db : Bool} (h : StAt W s d p t err db) : W.cell? ⟨s, 0, none⟩ = some (.pointer (some ⟨d, 0, none⟩)) ∧ W.cell? ⟨s, 1, none⟩ = some (.pointer (some ⟨p, 0, none⟩)) ∧ W.cell? ⟨s, 2, none⟩ = some (.pointer (some ⟨t, 0, none⟩)) ∧ W.cell? ⟨s, 3, none⟩ = some (.int .i64 err) ∧ W.cell? ⟨s, 4, none⟩ = some (.bool db) := by
  refine ⟨?_, ?_, ?_, ?_, ?_⟩ <;> (rw [cell_of_row W s _ _ _ _ h.out]; rfl)
theorem StAt.fz {W : World} {s d p t : Nat} {err : Int} {db : Bool} (h : StAt W s d p t err db) (j : Nat) : W.frozen? ⟨s, j, none⟩ = false := frozen_of_row W s j _ _ h.out
theorem StAt.kept {W W' : World} {s d p t : Nat} {err : Int} {db : Bool} (h : StAt W s d p t err db) (k : Kept W W') : StAt W' s d p t err db := ⟨k.block h.out⟩
theorem calm74 : G.Calm 74 := by unfold G.Calm D.Calm; decide
theorem StAt.on {B : Nat} {W W' : World} {s d p t : Nat} {err : Int} {db : Bool} (h : StAt W s d p t err db) (o : G.On B W W') : StAt W' s d p t err db := ⟨o.rows _ _ _ _ h.out calm74⟩
theorem StAt.set3 {W : World} {s d p t : Nat} {err : Int} {db : Bool} (h : StAt W s d p t err db) (e : Int) : StAt (W.setCell ⟨s, 3, none⟩ (.int .i64 e)) s d p t e db := ⟨by rw [heap_setCell_same W s 3 _ _ _ h.out]; rfl⟩
theorem StAt.set4 {W : World} {s d p t : Nat} {err : Int} {db : Bool} (h : StAt W s d p t err db) (b : Bool) : StAt (W.setCell ⟨s, 4, none⟩ (.bool b)) s d p t err b := ⟨by rw [heap_setCell_same W s 4 _ _ _ h.out]; rfl⟩
theorem one_grown (w : World) (b i : Nat) (v : Value) : w.grownBy (w.setCell ⟨b, i, none⟩ v) (some b) :=
  ⟨rfl, rfl, rfl, by simp, fun k _ hk => heap_setCell_other _ ⟨b, i, none⟩ k _ (fun e => hk (by rw [e]))⟩
theorem on_gro {B : Nat} {w W W' : World} {r : Option Nat} (h : G.On B w W) (hg : W.grownBy W' r) (hr : ∀ b, r = some b → w.heap.size ≤ b) (hB : B ≤ w.heap.size) : G.On B w W' :=
  (Fr.grown (S := W.heap.size + w.heap.size) ⟨h, fun k es c hk hm => by have := (Array.getElem?_eq_some_iff.1 hm).1; omega⟩ hg hr hB).on
theorem GAt.kept {B : Nat} {W W' : World} {p d g : Nat} {q : G.Pq} (h : G.GAt B W p d g q) (k : Kept W W') : G.GAt B W' p d g q := by
  obtain ⟨a, e1, e2, ga⟩ := h.out
  exact ⟨a, e1, e2, ga.kept ⟨k.out⟩⟩

theorem err_walk {w : World} {s d p t : Nat} {err : Int} {db : Bool} (h : StAt w s d p t err db) : Calls Tryz.prog 25 #[.pointer (some ⟨s, 0, none⟩)] w fun e w' => e = .returned (.int .i64 err) ∧ w' = w := by
  obtain ⟨c0, c1, c2, c3, c4⟩ := h.cs
  go_enter Tryz.func25, Tryz.ntmps25
  go_wp2
  go_ret
  exact ⟨rfl, rfl⟩
theorem err_nil (w : World) : Calls Tryz.prog 25 #[.pointer none] w fun e w' => e = .returned (.int .i64 1) ∧ w' = w := by
  go_enter Tryz.func25, Tryz.ntmps25
  go_wp2
  go_ret
  exact ⟨rfl, rfl⟩

theorem sup_root (a : Int) (b : Int) (W : World) : (Instr.field 88 (.agg #[.int .u64 a, .int .i64 b]) 1).run Tryz.prog W = .ok (.int .i64 b) W := by
  simp [Instr.field, run_underlying Tryz.underlying88, asAgg, part]
theorem sup_gen (a : Int) (b : Int) (W : World) : (Instr.field 88 (.agg #[.int .u64 a, .int .i64 b]) 0).run Tryz.prog W = .ok (.int .u64 a) W := by
  simp [Instr.field, run_underlying Tryz.underlying88, asAgg, part]

set_option maxRecDepth 100000 in
set_option maxHeartbeats 1000000 in
theorem begin_walk {B : Nat} {w : World} {s d p g : Nat} {v : Value} {err : Int} {db : Bool} {q : G.Pq} (hS : w.heap[s]? = some (.cells #[.pointer (some ⟨d, 0, none⟩), .pointer (some ⟨p, 0, none⟩), v, .int .i64 err, .bool db] 74)) (hG : G.GAt B w p d g q) :
    Calls Tryz.prog 38 #[.pointer (some ⟨s, 0, none⟩)] w fun e w' => e = .returned (.tuple #[]) ∧ ∃ t, StAt w' s d p t err db ∧ TAt w' t p q.root ∧ w.heap.size ≤ t ∧ w.grownBy w' (some s) := by
  have f1 : Hid (∀ W, Kept w W → Calls Tryz.prog 44 #[.pointer (some ⟨p, 0, none⟩)] W fun e w' => e = .returned (.agg #[.int .u64 (q.gen : Nat), .int .i64 q.root]) ∧ D.Kept W w') := fun W k => G.state_walk (GAt.kept hG k)
  have f2 : Hid (∀ W, Calls Tryz.prog 59 #[.pointer (some ⟨p, 0, none⟩), .int .i64 q.root] W fun e w' => e = .returned (.pointer (some ⟨W.heap.size, 0, none⟩)) ∧ TAt w' W.heap.size p q.root ∧ Kept W w') := fun W => new_walk W p q.root
  have HK : Hid (∀ W, Kept w W → W.cell? ⟨s, 1, none⟩ = some (.pointer (some ⟨p, 0, none⟩)) ∧ W.cell? ⟨s, 2, none⟩ = some v ∧ W.frozen? ⟨s, 2, none⟩ = false) := fun W k => by
    have hb := k.block hS
    exact ⟨by rw [cell_of_row W s _ _ _ _ hb]; rfl, by rw [cell_of_row W s _ _ _ _ hb]; rfl, frozen_of_row W s 2 _ _ hb⟩
  obtain ⟨c1, c2, c3⟩ := HK.out w (Kept.refl w)
  have HS : Hid (w.heap[s]? = some (.cells #[.pointer (some ⟨d, 0, none⟩), .pointer (some ⟨p, 0, none⟩), v, .int .i64 err, .bool db] 74)) := hS
  have K0 : Kept w w.drew := (Kept.refl w).drew
  clear hS hG
  generalize q.root = rt at *
  generalize q.gen = gn at *
  have hfl : ∀ W, (Instr.field 88 (.agg #[.int .u64 (gn : Nat), .int .i64 rt]) 1).run Tryz.prog W = .ok (.int .i64 rt) W := fun W => sup_root _ _ W
  go_enter Tryz.func38, Tryz.ntmps38
  go_wp2
  go_region_held3 (fun W => W.cell? ⟨s, 1, none⟩ = some (.pointer (some ⟨p, 0, none⟩))) (first | trivial | go_keep | exact e6 | exact (HK.out _ (by assumption)).1) (first
    | (go_at_call 44; (with_reducible refine (f1.out _ K0).mono ?_); rintro e w1 ⟨rfl, k1⟩; have K1 : Kept w w1 := K0.trans ⟨k1.out⟩; obtain ⟨d1, d2, d3⟩ := HK.out _ K1; clear K0)
    | (go_at_call 59; (with_reducible refine (f2.out _).mono ?_); rintro e w2 ⟨rfl, T2, k2⟩; have K2 : Kept w w2 := K1.trans k2; obtain ⟨e1, e2, e3⟩ := HK.out _ K2; have hsz := K1.size; have e6 : (w2.setCell ⟨s, 2, none⟩ (.pointer (some ⟨w1.heap.size, 0, none⟩))).cell? ⟨s, 1, none⟩ = some (.pointer (some ⟨p, 0, none⟩)) := (by rw [World.cell?_setCell_other (h := show (⟨s, 2, none⟩ : Addr) ≠ ⟨s, 1, none⟩ from fun e => absurd (show (2 : Nat) = 1 from congrArg Addr.off e) (by omega))]; exact e1); clear f2))
  all_goals go_wp2
  all_goals first | go_end0 | refine bodyPost_ret (results_none rfl _ _ _) rfl ?_
  all_goals
    have hb := K2.block HS.out
    have T3 : TAt (w2.setCell ⟨s, 2, none⟩ (.pointer (some ⟨w1.heap.size, 0, none⟩))) w1.heap.size p rt := ⟨by rw [heap_setCell_other _ ⟨s, 2, none⟩ _ _ (G.cells_ne T2.out hb (by decide))]; exact T2.out⟩
    have S3 : StAt (w2.setCell ⟨s, 2, none⟩ (.pointer (some ⟨w1.heap.size, 0, none⟩))) s d p w1.heap.size err db := ⟨by rw [heap_setCell_same w2 s 2 _ _ _ hb]; rfl⟩
    exact ⟨rfl, _, S3, T3, hsz, (K2.grown _).trans (one_grown _ _ _ _)⟩

theorem mark_none {w : World} {s : Nat} : Calls Tryz.prog 76 #[.pointer (some ⟨s, 0, none⟩), .slice none 0 0] w fun e w' => e = .returned (.int .i64 0) ∧ w' = w := by
  go_enter Tryz.func76, Tryz.ntmps76
  go_wp2
  refine wp_loop_rounds 1 ?_
  rw [rounds_succ]
  go_wp2
  go_ret
  exact ⟨rfl, rfl⟩
theorem pages_none {w : World} {t p : Nat} (hT : TAt w t p (-1)) (fv : Value) :
    Calls Tryz.prog 74 #[.pointer (some ⟨t, 0, none⟩), fv] w fun e w' => e = .returned (.tuple #[.slice none 0 0, .int .i64 0]) ∧ w' = w := by
  have fr := root_walk hT
  go_enter Tryz.func74, Tryz.ntmps74
  go_wp2_with (go_at_call 36; (with_reducible refine fr.mono ?_); rintro e w1 ⟨rfl, hw1⟩; rw [hw1]; clear hw1)
  go_ret2
  exact ⟨rfl, rfl⟩
theorem markAll_none {w : World} {s d p t : Nat} {err : Int} {db : Bool} (hS : StAt w s d p t err db) (hT : TAt w t p (-1)) :
    Calls Tryz.prog 49 #[.pointer (some ⟨s, 0, none⟩)] w fun e w' => e = .returned (.int .i64 0) ∧ w' = w := by
  obtain ⟨c0, c1, c2, c3, c4⟩ := hS.cs
  have f1 := pages_none hT
  have f2 := mark_none (w := w) (s := s)
  go_enter Tryz.func49, Tryz.ntmps49
  go_wp2_with (first
    | (go_at_call 74; (with_reducible refine (f1 _).mono ?_); rintro e w1 ⟨rfl, hw1⟩; rw [hw1]; clear hw1)
    | (go_at_call 76; (with_reducible refine f2.mono ?_); rintro e w1 ⟨rfl, hw1⟩; rw [hw1]; clear hw1))
  go_ret
  exact ⟨rfl, rfl⟩

set_option maxRecDepth 100000 in
set_option maxHeartbeats 1000000 in
theorem mark_one {B L : Nat} {w : World} {s d p t g m gen c n : Nat} {err : Int} {db : Bool} {root : Int} {M : Pm} {u : Nat → Bool} {q : Option Addr} {cc : Nat} (hS : StAt w s d p t err db) (hC : Cg B L w p d g m gen c root M u) (hn : n < m) (hu : u n = false) (hR : Rw w 1 q 1 cc [.int .i64 (n : Nat)]) :
    Calls Tryz.prog 76 #[.pointer (some ⟨s, 0, none⟩), .slice q 1 cc] w fun e w' => e = .returned (.int .i64 0) ∧ Cg B L w' p d g m gen c root M (S.useAt u n) ∧ G.On B w w' := by
  obtain ⟨c0, c1, c2, c3, c4⟩ := hS.cs
  have f1 := hC.mark hn hu
  obtain ⟨b, o, rfl, hc⟩ := hR.some (by omega)
  have hc0 : w.cell? ⟨b, o, none⟩ = some (.int .i64 (n : Nat)) := hc 0 _ rfl
  clear hC hS hc
  go_enter Tryz.func76, Tryz.ntmps76
  go_wp2
  refine wp_loop_rounds 2 ?_
  rw [rounds_succ]
  go_wp2_with (go_at_call 107; (with_reducible refine f1.mono ?_); rintro e w1 ⟨rfl, C1, o1⟩; have HC : Hid (Cg B L w1 p d g m gen c root M (S.useAt u n) ∧ G.On B w w1) := ⟨C1, o1⟩; clear C1 o1)
  rw [rounds_succ]
  go_wp2
  go_ret
  exact ⟨rfl, HC.out⟩

set_option maxRecDepth 100000 in
set_option maxHeartbeats 1000000 in
theorem markAll_one {B L : Nat} {w : World} {s d p t g m gen c n : Nat} {err : Int} {db : Bool} {root : Int} {M : Pm} {u : Nat → Bool} (hS : StAt w s d p t err db) (hC : Cg B L w p d g m gen c root M u) (hB : B ≤ w.heap.size) (hL : L ≤ w.heap.size) (hT : TAt w t p (n : Nat)) (hu : u n = false) {y : Nd} (hy : M n = some y) (hg : N.Good y) (hup : Up y.ks) (hl : y.leaf = true) (hv : ∀ v ∈ y.vs, v.p = -1) :
    Calls Tryz.prog 49 #[.pointer (some ⟨s, 0, none⟩)] w fun e w' => e = .returned (.int .i64 0) ∧ Cg B L w' p d g m gen c root M (S.useAt u n) ∧ G.On B w w' := by
  obtain ⟨c0, c1, c2, c3, c4⟩ := hS.cs
  have hr := hC.rng n y hy
  have hf := hC.few
  have f1 := pages_one (s := s) (Cg.rdr B L p d g m gen c root M u) hB hL hT hC hy hg hup hl hv (by omega)
  have f2 : Hid (∀ W q cc, Ct B L (fun W => Cg B L W p d g m gen c root M u) w W → Rw W 1 q 1 cc [.int .i64 (n : Nat)] → Calls Tryz.prog 76 #[.pointer (some ⟨s, 0, none⟩), .slice q 1 cc] W fun e w' => e = .returned (.int .i64 0) ∧ Cg B L w' p d g m gen c root M (S.useAt u n) ∧ G.On B W w') := fun W q cc hW hR => mark_one (hS.on hW.f.on) hW.i hr.2.1 hu hR
  clear hS hC hT hy hg hup hl hv hB hL hr hf
  go_enter Tryz.func49, Tryz.ntmps49
  go_wp2_with (first
    | (go_at_call 74; (with_reducible refine f1.mono ?_); rintro e w1 ⟨⟨q, cc, rfl, R1⟩, k1⟩; have f3 := f2.out _ q cc k1 R1; have HO : Hid (G.On B w w1) := k1.f.on; clear f1 f2 R1 k1)
    | (go_at_call 76; (with_reducible refine f3.mono ?_); rintro e w2 ⟨rfl, C2, o2⟩; have HF : Hid (Cg B L w2 p d g m gen c root M (S.useAt u n) ∧ G.On B w w2) := ⟨C2, HO.out.trans o2⟩; clear f3 C2 o2))
  go_ret
  exact ⟨rfl, HF.out⟩

theorem load_err {B : Nat} {w : World} {d g : Nat} {dk : D.Dk} {x : Int} (hx : ¬ x = 0) (hO : Calls Tryz.prog 48 #[.pointer (some ⟨d, 0, none⟩)] w fun e w' => e = .returned (.tuple #[.pointer none, .int .i64 x]) ∧ D.DiskAt B w' d g dk ∧ D.On B w w') :
    Calls Tryz.prog 31 #[.pointer (some ⟨d, 0, none⟩)] w fun e w' => e = .returned (.tuple #[.pointer none, .int .i64 x]) ∧ D.DiskAt B w' d g dk ∧ D.On B w w' := by
  have e0 : (x != 0) = true := by simpa using hx
  go_enter Tryz.func31, Tryz.ntmps31
  go_wp2_with (go_at_call 48; (with_reducible refine hO.mono ?_); rintro e w1 ⟨rfl, D1, O1⟩)
  go_ret2
  exact ⟨rfl, D1, O1⟩

set_option maxRecDepth 100000 in
set_option maxHeartbeats 1000000 in
theorem load_by {B : Nat} {w : World} {d g : Nat} {q : G.Pq} (hB : B ≤ w.heap.size) (hO : Calls Tryz.prog 48 #[.pointer (some ⟨d, 0, none⟩)] w fun e w' => ∃ p, e = .returned (.tuple #[.pointer (some ⟨p, 0, none⟩), .int .i64 0]) ∧ G.GAt B w' p d g q ∧ G.On B w w')
    (Q : World → Nat → Prop) (HM : Hid (∀ W0 W s t p, G.GAt B W0 p d g q → Kept W0 W → B ≤ W0.heap.size → StAt W s d p t 0 false → TAt W t p q.root → Calls Tryz.prog 49 #[.pointer (some ⟨s, 0, none⟩)] W fun e w' => e = .returned (.int .i64 0) ∧ Q w' p ∧ G.On B W w')) :
    Calls Tryz.prog 31 #[.pointer (some ⟨d, 0, none⟩)] w fun e w' => ∃ s t p, e = .returned (.tuple #[.pointer (some ⟨s, 0, none⟩), .int .i64 0]) ∧ StAt w' s d p t 0 false ∧ TAt w' t p q.root ∧ Q w' p ∧ (w.heap.size ≤ s ∧ w.heap.size ≤ t) ∧ G.On B w w' := by
  have HB : Hid (B ≤ w.heap.size) := hB
  have HBeg : Hid (∀ W s p, (∃ W0, W = W0.alloc (.cells #[.pointer (some ⟨d, 0, none⟩), .pointer (some ⟨p, 0, none⟩), .pointer none, .int .i64 0, .bool false] 74) ∧ s = W0.heap.size ∧ G.GAt B W0 p d g q) → Calls Tryz.prog 38 #[.pointer (some ⟨s, 0, none⟩)] W fun e w' => e = .returned (.tuple #[]) ∧ ∃ t, StAt w' s d p t 0 false ∧ TAt w' t p q.root ∧ W.heap.size ≤ t ∧ W.grownBy w' (some s)) := by
    rintro W s p ⟨W0, rfl, rfl, hG⟩
    exact begin_walk (heap_alloc_new W0 _) (GAt.kept hG ((Kept.refl W0).alloc _))
  clear hB
  go_enter Tryz.func31, Tryz.ntmps31
  go_wp2_with (first
    | (go_at_call 48; (with_reducible refine hO.mono ?_); rintro e w1 ⟨p, rfl, G1, o1⟩; have g2 := HBeg.out _ w1.heap.size p ⟨w1, rfl, rfl, G1⟩; have HG1 : Hid (G.GAt B w1 p d g q ∧ G.On B w w1) := ⟨G1, o1⟩; clear hO G1 o1 HBeg)
    | (go_at_call 38; (with_reducible refine g2.mono ?_); rintro e w2 ⟨rfl, t, S2, T2, ht, gr2⟩; have gr : w1.grownBy w2 (some w1.heap.size) := (((Kept.refl w1).alloc _).grown _).trans gr2; have f3 := HM.out w1 w2 w1.heap.size t p HG1.out.1 (N.grown_kept (B := w1.heap.size) w1 (Kept.refl w1) gr (Nat.le_refl _) (fun b e => (by injection e with e; omega))) (Nat.le_trans HB.out HG1.out.2.size) S2 T2; have HS2 : Hid (StAt w2 w1.heap.size d p t 0 false ∧ TAt w2 t p q.root) := ⟨S2, T2⟩; have HO2 : Hid (G.On B w w2 ∧ w.heap.size ≤ w1.heap.size ∧ w.heap.size ≤ t) := ⟨on_gro HG1.out.2 gr (fun b e => (by injection e with e; have := HG1.out.2.size; omega)) HB.out, HG1.out.2.size, (by have := HG1.out.2.size; rw [N.size_alloc] at ht; omega)⟩; clear g2 S2 T2 ht gr gr2 HM)
    | (go_at_call 49; (with_reducible refine f3.mono ?_); rintro e w3 ⟨rfl, q3, o3⟩; have HF : Hid (StAt w3 w1.heap.size d p t 0 false ∧ TAt w3 t p q.root ∧ Q w3 p ∧ G.On B w w3) := ⟨HS2.out.1.on o3, HS2.out.2.on o3, q3, HO2.out.1.trans o3⟩; clear f3 q3 o3))
  go_ret2
  exact ⟨_, t, p, rfl, HF.out.1, HF.out.2.1, HF.out.2.2.1, HO2.out.2, HF.out.2.2.2⟩
open Go.Proofs.YtifeihnhkbagpaaGreatDoor.D (Dk DiskAt Ok whole Sec Wr)
open G (Flu Liv Sd sayS pick opened Wrt)
open P (bs supP Sup)

theorem open_B {B : Nat} {w : World} {b g : Nat} {d2 : Dk} (x : Int) (hx : ¬ x = 0) (hB : B ≤ w.heap.size)
    (f1 : Calls Tryz.prog 70 #[.pointer (some ⟨b, 0, none⟩)] w fun e w' => e = .returned (.tuple #[.agg #[.int .u64 0, .int .i64 0], .int .i64 x]) ∧ DiskAt B w' b g d2 ∧ D.On B w w') :
    Calls Tryz.prog 48 #[.pointer (some ⟨b, 0, none⟩)] w fun e w' => e = .returned (.tuple #[.pointer none, .int .i64 x]) ∧ DiskAt B w' b g d2 ∧ D.On B w w' := by
  have e0 : (x != 0) = true := by simpa using hx
  go_enter Tryz.func48, Tryz.ntmps48
  go_wp2_with (go_at_call 70; (with_reducible refine f1.mono ?_); rintro e w1 ⟨rfl, D1, O1⟩)
  go_ret2
  exact ⟨rfl, ((D.Kept.refl w1).alloc _).dk D1, O1.trans (((D.Kept.refl w1).alloc _).on (Nat.le_trans hB O1.size))⟩

theorem open_none {B : Nat} {w : World} {b g m : Nat} {d : Dk} (h : DiskAt B w b g d) (hB : B ≤ w.heap.size) (ok : Ok m d) (hm : m < 49000) (hf : Flu d) (hl : Liv d 2) {s0 s1 : Sec} (e0 : d.secs[0]? = some s0) (e1 : d.secs[1]? = some s1)
    (k0 : Sd (sayS s0).1 0 none) (k1 : Sd (sayS s1).1 1 none) :
    Calls Tryz.prog 48 #[.pointer (some ⟨b, 0, none⟩)] w fun e w' => e = .returned (.tuple #[.pointer none, .int .i64 81]) ∧ DiskAt B w' b g d.begin.begin ∧ D.On B w w' := by
  have r0 : d.read 0 = (d.begin, sayS s0) := G.read_flu hf (hl.mono (by omega)) e0
  have r1 : d.begin.read 1 = (d.begin.begin, sayS s1) := G.read_flu (G.begin_flu hf) (G.begin_live hl) e1
  have t : ∀ s : Sec, (sayS s).2 = 0 ∨ (sayS s).2 = 41 := by intro s; unfold sayS; cases s.torn <;> simp
  have f := G.committed_no h hB ok hm (o0 := none) (o1 := none) (by rw [r0]; exact t _) (by rw [r0]; show (d.begin.read 1).2.2 = 0 ∨ _; rw [r1]; exact t _) (by rw [r0]; exact k0) (by rw [r0]; show Sd (d.begin.read 1).2.1 1 none; rw [r1]; exact k1) rfl
  rw [r0] at f
  dsimp only at f
  rw [r1] at f
  exact open_B 81 (by decide) hB f

structure Fn (n c : Nat) (d : Dk) : Prop where
  flu : Flu d
  len : d.secs.length = n
  cuts : d.cuts = []
  fails : d.fails = 0
  ok : Ok c d
theorem Fn.live {n c : Nat} {d : Dk} (h : Fn n c d) (k : Nat) : Liv d k := ⟨h.flu.up, fun c r hc => by rw [h.cuts] at hc; cases hc⟩
theorem Fn.begin {n c : Nat} {d : Dk} (h : Fn n c d) : Fn n (c + 1) d.begin := ⟨G.begin_flu h.flu, h.len, h.cuts, h.fails, D.begin_ok' h.ok.to'⟩
theorem fn_new (n : Nat) : Fn n 0 (Dk.new n []) := ⟨G.new_flu n [], by simp [Dk.new], rfl, rfl, D.new_ok n []⟩
theorem new_at {n k : Nat} (hk : k < n) : (Dk.new n []).secs[k]? = some ⟨whole ⟨#[]⟩, false, 0⟩ := by
  show (List.replicate n _)[k]? = _
  rw [List.getElem?_replicate, if_pos hk]

theorem fmt_fn {n c : Nat} {d : Dk} (h : Fn n c d) (h2 : 2 ≤ n) : ∃ d', G.fmtd d = (d', 0) ∧ Fn n (c + 5) d' ∧ d'.secs[0]? = some ⟨whole ⟨#[]⟩, false, 0⟩ ∧ d'.secs[1]? = some ⟨bs (supP 1 (-1)), false, 0⟩ := by
  obtain ⟨d1, d', e, w1, w2⟩ := G.fmtd_live h.flu (h.live 5) (by rw [h.len]; exact h2)
  have ok := G.fmtd_ok h.ok
  rw [e] at ok
  refine ⟨d', e, ⟨w2.flu, by rw [w2.len, w1.len, h.len], by rw [w2.cuts, w1.cuts, h.cuts], by rw [w2.fails, w1.fails, h.fails], ok⟩, ?_, w2.own ⟨1, bs (supP 1 (-1))⟩ (by simp)⟩
  rw [w2.oth 0 (by intro x hx; simp at hx; subst hx; decide)]
  exact w1.own ⟨0, whole ⟨#[]⟩⟩ (by simp)

structure Bn (n c : Nat) (d : Dk) : Prop where
  fn : Fn n c d
  s0 : d.secs[0]? = some ⟨whole ⟨#[]⟩, false, 0⟩
  s1 : d.secs[1]? = some ⟨bs (supP 1 (-1)), false, 0⟩

theorem ahead_two (k : Nat) : G.ahead k = decide (k < 2) := by
  unfold G.ahead S.useAt
  by_cases h0 : k = 0
  · subst h0; rfl
  · by_cases h1 : k = 1
    · subst h1; rfl
    · rw [if_neg h1, if_neg h0]; simp; omega
theorem pv_open {B : Nat} {w : World} {p b g n c : Nat} {d : Dk} (h : G.GAt B w p b g (opened d (1, -1))) (hd : Bn n c d) (h2 : 2 ≤ n) (h3 : n ≤ 1024) : Pv B w p ⟨n, b, g, d, 1, -1, fun _ => none⟩ (fun _ => none) :=
  ⟨⟨_, h, hd.fn.len, ⟨rfl, rfl, rfl, rfl, fun _ => rfl⟩, fun _ => rfl, fun k _ => by show G.ahead k = _; rw [ahead_two]; simp [tkn], fun k _ => by show G.ahead k = _; rw [ahead_two]; simp [tkn], fun k _ => ahead_two k⟩, (fun k x hx => by cases hx), (fun k x hx => by cases hx), ⟨by show 1 < 4000; omega, hd.fn.cuts⟩, h3, h2⟩

structure Se (B : Nat) (W : World) (s d g n c gen : Nat) (dk : Dk) : Prop where
  out : ∃ t p, StAt W s d p t 0 false ∧ TAt W t p (-1) ∧ Pv B W p ⟨n, d, g, dk, gen, -1, fun _ => none⟩ (fun _ => none) ∧ B ≤ s ∧ B ≤ t
  bd : Fn n c dk

set_option maxRecDepth 100000 in
set_option maxHeartbeats 1000000 in
theorem open_new {B : Nat} {w : World} {b g n : Nat} (h : DiskAt B w b g (Dk.new n [])) (hB : B ≤ w.heap.size) (h2 : 2 ≤ n) (h3 : n ≤ 1024) :
    Calls Tryz.prog 10 #[.pointer (some ⟨b, 0, none⟩)] w fun e w' => ∃ s dk, e = .returned (.tuple #[.pointer (some ⟨s, 0, none⟩), .int .i64 0]) ∧ Se B w' s b g n 9 1 dk ∧ Bn n 9 dk ∧ G.On B w w' := by
  have hn := fn_new n
  have f1 := load_err (by decide) (open_none h hB hn.ok (by decide) hn.flu (hn.live 2) (new_at (by omega)) (new_at (by omega)) (G.sd_zeros 0) (G.sd_zeros 1))
  obtain ⟨d1, ef, hf, s0, s1⟩ := fmt_fn hn.begin.begin h2
  have f2 : Hid (∀ W, DiskAt B W b g (Dk.new n []).begin.begin → B ≤ W.heap.size → Calls Tryz.prog 32 #[.pointer (some ⟨b, 0, none⟩)] W fun e w' => e = .returned (.int .i64 0) ∧ DiskAt B w' b g d1 ∧ D.On B W w') := fun W k kB => by
    have := G.format_walk k kB hn.begin.begin.ok (by decide)
    rw [ef] at this
    exact this
  have f3 : Hid (∀ W, DiskAt B W b g d1 → B ≤ W.heap.size → Calls Tryz.prog 31 #[.pointer (some ⟨b, 0, none⟩)] W fun e w' => ∃ s t p, e = .returned (.tuple #[.pointer (some ⟨s, 0, none⟩), .int .i64 0]) ∧ StAt w' s b p t 0 false ∧ TAt w' t p (-1) ∧ Pv B w' p ⟨n, b, g, d1.begin.begin, 1, -1, fun _ => none⟩ (fun _ => none) ∧ (W.heap.size ≤ s ∧ W.heap.size ≤ t) ∧ G.On B W w') := fun W k kB => by
    have bn : Bn n 9 d1.begin.begin := ⟨hf.begin.begin, s0, s1⟩
    refine load_by kB (q := opened d1.begin.begin (1, -1)) (G.open_flu k kB hf.ok (by decide) hf.flu (hf.live 2) (by rw [hf.len]; exact h2) (by rw [hf.len]; exact h3) s0 s1 (o0 := none) (o1 := some (1, -1)) (G.sd_zeros 0) (G.sd_state G.sup11 rfl) (1, -1) rfl) (fun w' p => Pv B w' p ⟨n, b, g, d1.begin.begin, 1, -1, fun _ => none⟩ (fun _ => none)) ?_
    intro W0 W s t p hG k0 hB0 hS hT
    refine (markAll_none hS hT).mono ?_
    rintro e w' ⟨rfl, rfl⟩
    exact ⟨rfl, (pv_open hG bn h2 h3).kept k0, G.On.refl _ _⟩
  have HB : Hid (B ≤ w.heap.size) := hB
  have HD : Hid (Bn n 9 d1.begin.begin) := ⟨hf.begin.begin, s0, s1⟩
  clear h hB h2 h3 hn ef hf s0 s1
  generalize (Dk.new n []).begin.begin = d0 at f1 f2
  go_enter Tryz.func10, Tryz.ntmps10
  go_wp2_with (first
    | (go_at_call 31; (with_reducible refine f1.mono ?_); rintro e w1 ⟨rfl, D1, o1⟩; have hB1 := Nat.le_trans HB.out o1.size; have g2 := f2.out _ D1 hB1; have HO1 : Hid (D.On B w w1) := o1; clear f1 f2 D1 o1)
    | (go_at_call 32; (with_reducible refine g2.mono ?_); rintro e w2 ⟨rfl, D2, o2⟩; have hB2 := Nat.le_trans hB1 o2.size; have g3 := f3.out _ D2 hB2; have HO2 : Hid (G.On B w w2) := (G.On.ofD HO1.out).trans (G.On.ofD o2); clear g2 f3 D2 o2)
    | (go_at_call 31; (with_reducible refine g3.mono ?_); rintro e w3 ⟨s, t, p, rfl, S3, T3, V3, l3, o3⟩; have HF : Hid (Se B w3 s b g n 9 1 d1.begin.begin ∧ G.On B w w3) := ⟨⟨⟨t, p, S3, T3, V3, Nat.le_trans hB2 l3.1, Nat.le_trans hB2 l3.2⟩, HD.out.fn⟩, HO2.out.trans o3⟩; clear g3 S3 T3 V3 l3 o3))
  go_ret2
  exact ⟨s, _, rfl, HF.out.1, HD.out, HF.out.2⟩
open G (secOf keysOf)
open B (En Tree Tr con fm fm_some fmN_leaf con_leaf Wf up_of got us)

theorem smayKey_walk (w : World) (k : ByteArray) (hk : k.size ≤ 64) : Calls Tryz.prog 33 #[.string k] w fun e w' => e = .returned (.bool true) ∧ w' = w := by
  have h : (k.size : Int) ≤ 64 := by omega
  go_enter Tryz.func33, Tryz.ntmps33
  go_wp2
  go_ret
  exact ⟨rfl, rfl⟩

theorem value_inline (w : World) (s : Option Addr) (x : ByteArray) (hx : x.size ≤ 48) :
    Calls Tryz.prog 60 #[.pointer s, .string x] w fun e w' => e = .returned (.tuple #[.agg #[.string x, .int .i64 (-1), .int .i64 0], .int .i64 0]) ∧ Kept w w' := by
  have h : (x.size : Int) ≤ 48 := by omega
  go_enter Tryz.func60, Tryz.ntmps60
  go_wp2
  refine bodyPost_ret (v := .tuple #[.agg #[.string x, .int .i64 (-1), .int .i64 0], .int .i64 0]) ?_ rfl ⟨rfl, (Kept.refl w).alloc _⟩
  exact N.results_two (p := 4) (u := 5) (ty := 77) rfl _ _ w.heap.size 77 #[.string x, .int .i64 (-1), .int .i64 0] (0, 0) _ rfl (heap_alloc_new w _) Tryz.underlying77 rfl size77

theorem release_no {w : World} {s d p t : Nat} {err : Int} {db : Bool} {key : ByteArray} (hS : StAt w s d p t err db) (f : Calls Tryz.prog 40 #[.pointer (some ⟨t, 0, none⟩), .string key] w fun e w' => e = .returned (.tuple #[.agg #[.string ⟨#[]⟩, .int .i64 (-1), .int .i64 0], .bool false, .int .i64 0]) ∧ Kept w w') :
    Calls Tryz.prog 53 #[.pointer (some ⟨s, 0, none⟩), .string key] w fun e w' => e = .returned (.tuple #[.bool false, .int .i64 0]) ∧ Kept w w' := by
  obtain ⟨c0, c1, c2, c3, c4⟩ := hS.cs
  go_enter Tryz.func53, Tryz.ntmps53
  go_wp2_with (go_at_call 40; (with_reducible refine f.mono ?_); rintro e w1 ⟨rfl, k1⟩)
  go_ret2
  exact ⟨rfl, k1.trans ((Kept.refl _).alloc _)⟩

theorem StAt.tx {B : Nat} {W W' : World} {s d p t : Nat} {err : Int} {db : Bool} (h : StAt W s d p t err db) {r : Int} (hT : TAt W t p r) (o : Tx B t W W') : StAt W' s d p t err db := ⟨o.rows _ _ _ _ h.out calm74 (G.cells_ne h.out hT.out (by decide))⟩

structure So (B : Nat) (W : World) (s d g n c gen : Nat) (dk : Dk) (key x : ByteArray) : Prop where
  out : ∃ t p M r, StAt W s d p t 0 false ∧ TAt W t p r ∧ Pv B W p ⟨n, d, g, dk, gen, -1, fun _ => none⟩ M ∧ Tree M r [(key, ⟨x, -1, 0⟩)] ∧ B ≤ s ∧ B ≤ t
  bd : Fn n c dk

set_option maxRecDepth 100000 in
set_option maxHeartbeats 1000000 in
theorem put_first {B : Nat} {w : World} {s d g n c gen : Nat} {dk : Dk} (h : Se B w s d g n c gen dk) (hB : B ≤ w.heap.size) (hL : S.Lds w) (hn : 3 ≤ n) (key x : ByteArray) (hk : key.size ≤ 64) (hx : x.size ≤ 48) :
    Calls Tryz.prog 39 #[.pointer (some ⟨s, 0, none⟩), .string key, .string x] w fun e w' => e = .returned (.int .i64 0) ∧ So B w' s d g n c gen dk key x ∧ Below B w w' := by
  obtain ⟨t, p, hS, hT, hV, hbs, hbt⟩ := h.out
  obtain ⟨c0, c1, c2, c3, c4⟩ := hS.cs
  have f1 := release_no hS (get_nil (key := key) hT)
  have f2 : Hid (∀ W, Calls Tryz.prog 60 #[.pointer (some ⟨s, 0, none⟩), .string x] W fun e w' => e = .returned (.tuple #[.agg #[.string x, .int .i64 (-1), .int .i64 0], .int .i64 0]) ∧ Kept W w') := fun W => value_inline W _ x hx
  have f3 : Hid (∀ W, Kept w W → Calls Tryz.prog 61 #[.pointer (some ⟨t, 0, none⟩), .string key, .agg #[.string x, .int .i64 (-1), .int .i64 0]] W fun e w' => (∃ a b, e = .returned (.tuple #[a, b, .int .i64 0])) ∧ (So B w' s d g n c gen dk key x ∧ StAt w' s d p t 0 false ∧ ∀ b a0 a1 a2, C3 W b 77 a0 a1 a2 → C3 w' b 77 a0 a1 a2) ∧ Below B w w') := fun W k => by
    refine (put_empty key x (hT.kept k) hbt (hV.kept k) (fun _ => rfl) (Nat.le_trans hB k.size) (lds_kept hL k) hk hx).mono ?_
    rintro e w' (⟨rfl, M', r, tr, T5, V5, x5⟩ | ⟨rfl, M', er, _⟩)
    · exact ⟨⟨_, _, rfl⟩, ⟨⟨⟨t, p, M', r, (hS.kept k).tx (hT.kept k) x5, T5, V5, tr, hbs, hbt⟩, h.bd⟩, (hS.kept k).tx (hT.kept k) x5, fun b a0 a1 a2 hc => ⟨x5.rows _ _ _ _ hc.out calm77 (G.cells_ne hc.out (hT.kept k).out (by decide))⟩⟩, (k.out.mono hB).trans x5.below⟩
    · exfalso
      obtain ⟨a, b, cc⟩ := er.out
      have h1 := er.full 2 (by omega) (by show 2 < n; omega)
      unfold tkn at h1
      have h2 := cc 2
      have h3 : a = [] := List.length_eq_zero_iff.1 (by omega)
      subst h3
      unfold us at h2
      cases e : (M' 2).isSome <;> simp [e] at h1 h2
  have HK : Hid (∀ W, Kept w W → W.cell? ⟨s, 2, none⟩ = some (.pointer (some ⟨t, 0, none⟩))) := fun W k => (hS.kept k).cs.2.2.1
  clear h hT hV hB hL hk hx hS
  go_enter Tryz.func39, Tryz.ntmps39
  go_wp2_with (first
    | (go_at_call 53; (with_reducible refine f1.mono ?_); rintro e w1 ⟨rfl, k1⟩; clear f1)
    | (go_at_call 60; (with_reducible refine (f2.out _).mono ?_); rintro e w2 ⟨rfl, k2⟩; have K2 := k1.trans k2; have R3 := C3.alloc w2 77 (.string x) (.int .i64 (-1)) (.int .i64 0); have K3 : Kept w (w2.alloc (.cells #[.string x, .int .i64 (-1), .int .i64 0] 77)) := K2.alloc _; have d2 := HK.out _ K3; obtain ⟨r0, r1, r2⟩ := R3.cs; clear k1 k2 f2))
  have K4 : Kept w (w2.alloc (.cells #[.string x, .int .i64 (-1), .int .i64 0] 77)).drew := K3.drew
  have g3 := f3.out _ K4
  go_region_held3 (fun W => W.cell? ⟨s, 2, none⟩ = some (.pointer (some ⟨t, 0, none⟩)) ∧ W.cell? ⟨w2.heap.size, 0, none⟩ = some (.string x) ∧ W.cell? ⟨w2.heap.size, 1, none⟩ = some (.int .i64 (-1)) ∧ W.cell? ⟨w2.heap.size, 2, none⟩ = some (.int .i64 0)) (first | trivial | go_keep) (first
    | (go_at_call 61; (with_reducible refine g3.mono ?_); rintro e w4 ⟨⟨a, b, rfl⟩, ⟨S4, A4, c4'⟩, b4⟩; obtain ⟨y0, y1, y2, y3, y4⟩ := A4.cs; obtain ⟨v0, v1, v2⟩ := (c4' w2.heap.size _ _ _ (C3.drew R3)).cs; have HF : Hid (So B w4 s d g n c gen dk key x ∧ Below B w w4) := ⟨S4, b4⟩; clear g3 S4 b4))
  all_goals go_wp2
  all_goals go_ret
  all_goals exact ⟨rfl, HF.out⟩

theorem So.turn {B : Nat} {W W' : World} {s d g n c gen : Nat} {dk : Dk} {key x : ByteArray} (h : So B W s d g n c gen dk key x) (hs : ∀ t p, StAt W s d p t 0 false → StAt W' s d p t 0 false) (hg : W.grownBy W' (some s)) : So B W' s d g n c gen dk key x := by
  obtain ⟨t, p, M, r, hS, hT, hV, tr, b1, b2⟩ := h.out
  refine ⟨⟨t, p, M, r, hs t p hS, ⟨(hg.block t (Array.getElem?_eq_some_iff.1 hT.out).1 (fun e => ?_)).trans hT.out⟩, hV.ap (Ap.grown hg (fun b e => ?_)), tr, b1, b2⟩, h.bd⟩
  · injection e with e
    exact (G.cells_ne hT.out hS.out (by decide)) e
  · injection e with e
    subst e
    exact ⟨_, _, _, hS.out, by decide⟩

set_option maxRecDepth 100000 in
set_option maxHeartbeats 1000000 in
theorem sput_first {B : Nat} {w : World} {s d g n c gen : Nat} {dk : Dk} (h : Se B w s d g n c gen dk) (hB : B ≤ w.heap.size) (hL : S.Lds w) (hn : 3 ≤ n) (key x : ByteArray) (hk : key.size ≤ 64) (hx : x.size ≤ 48) :
    Calls Tryz.prog 17 #[.pointer (some ⟨s, 0, none⟩), .string key, .string x] w fun e w' => e = .returned (.int .i64 0) ∧ So B w' s d g n c gen dk key x ∧ Below B w w' := by
  obtain ⟨t, p, hS, hT, hV, hbs, hbt⟩ := h.out
  have f1 := err_walk hS
  have f2 := smayKey_walk w key hk
  have f3 := put_first h hB hL hn key x hk hx
  have h3 : ¬ (65536 : Int) < (x.size : Nat) := by omega
  have HT : Hid (∀ W, So B W s d g n c gen dk key x → ∃ v0 v1 v2 v4, W.heap[s]? = some (.cells #[v0, v1, v2, .int .i64 0, v4] 74)) := fun W hW => by
    obtain ⟨t, p, M, r, hS, _⟩ := hW.out
    exact ⟨_, _, _, _, hS.out⟩
  clear h hS hT hV hB hL hk hx
  go_enter Tryz.func17, Tryz.ntmps17
  go_wp2_with (first
    | (go_at_call 25; (with_reducible refine f1.mono ?_); rintro e w1 ⟨rfl, hw1⟩; rw [hw1]; clear hw1)
    | (go_at_call 33; (with_reducible refine f2.mono ?_); rintro e w1 ⟨rfl, hw1⟩; rw [hw1]; clear hw1)
    | (go_at_call 39; (with_reducible refine f3.mono ?_); rintro e w2 ⟨rfl, S2, b2⟩; obtain ⟨v0, v1, v2, v4, hb⟩ := HT.out _ S2; have e3 : w2.cell? ⟨s, 3, none⟩ = some (.int .i64 0) := (by rw [cell_of_row w2 s _ _ _ _ hb]; rfl); have e4 := frozen_of_row w2 s 3 _ _ hb; have hb2 := heap_setCell_same w2 s 3 _ _ (.int .i64 0) hb; have e5 : (w2.setCell ⟨s, 3, none⟩ (.int .i64 0)).cell? ⟨s, 3, none⟩ = some (.int .i64 0) := (by rw [cell_of_row _ s _ _ _ _ hb2]; rfl); have HF : Hid (So B (w2.setCell ⟨s, 3, none⟩ (.int .i64 0)) s d g n c gen dk key x ∧ Below B w (w2.setCell ⟨s, 3, none⟩ (.int .i64 0))) := ⟨S2.turn (fun t p hS => hS.set3 0) (one_grown _ _ _ _), b2.setCell hbs _⟩; clear f3 S2 b2 hb hb2))
  go_ret
  exact ⟨rfl, HF.out⟩

structure Kd (n c gen : Nat) (dk : Dk) (M : Pm) (root : Int) : Prop where
  fn : Fn n c dk
  own : dk.secs[gen % 2]? = some ⟨bs (supP gen root), false, 0⟩
  sup : Sup gen root
  pgs : ∀ k y, M k = some y → dk.secs[k]? = some ⟨whole (secOf (G.putM (fun _ => none) k (ndp k gen y)) k), false, 0⟩

theorem sec_same {M M' : Nat → Option G.Pag} {n : Nat} (h : M n = M' n) : secOf M n = secOf M' n := by
  unfold secOf G.atK
  rw [h]

theorem pv_commit {B : Nat} {w : World} {p n d g gen c : Nat} {dk : Dk} {M : Pm} {root : Int} (h : Pv B w p ⟨n, d, g, dk, gen, -1, fun _ => none⟩ M) (hf : Fn n c dk) (hc : c < 40000) (hB : B ≤ w.heap.size) (hs : Sup (gen + 1) root) :
    ∃ dk', Kd n (c + 1100) (gen + 1) dk' M root ∧ dk'.secs[gen % 2]? = dk.secs[gen % 2]? ∧
      Calls Tryz.prog 35 #[.pointer (some ⟨p, 0, none⟩), .int .i64 root] w fun r w' => r = .returned (.int .i64 0) ∧ DiskAt B w' d g dk' ∧ G.On B w w' := by
  obtain ⟨q, hG, hm, ⟨e1, e2, e3, e4, e5⟩, hfr, hu, hn, hk⟩ := h.out
  dsimp only at hG hm e1 e2 e3 hfr hu hn hk
  have hfn : Fn n c q.disk := by rw [e2]; exact hf
  have hfew := h.few
  have hgn := h.fine.1
  dsimp only at hfew hgn
  have hsome : ∀ k, (q.fresh k).isSome = true → ∃ y, M k = some y := fun k hk' => by
    rw [hfr k] at hk'
    unfold frs at hk'
    cases hM : M k with
    | none => rw [hM] at hk'; simp at hk'
    | some y => exact ⟨y, rfl⟩
  have hkl : (keysOf q.fresh).length ≤ 1024 := by unfold keysOf; exact Nat.le_trans (List.length_filter_le _ _) (by simp)
  have hgen : ∀ n, (G.atK q.fresh n).gen < 18446744073709551616 := fun k => by
    unfold G.atK
    rw [hfr k]
    unfold frs
    cases hM : M k with
    | none => simp [G.Pag.zero]
    | some y => simp; omega
  have hkeys : ∀ k ∈ keysOf q.fresh, 2 ≤ k ∧ k < n := fun k hk' => by
    obtain ⟨y, hy⟩ := hsome k (G.mem_keys.1 hk').2
    have := h.rng k y hy
    exact ⟨this.1, this.2.1⟩
  obtain ⟨d1, d', w1, w2, ok, f⟩ := G.commit_live hG hB hfn.ok (by omega) e4 hgen (by omega) root (by rw [e1]; exact hs) hfn.flu (hfn.live _) (fun k hk' => by rw [hfn.len]; exact (hkeys k hk').2) (by rw [hfn.len]; exact h.two)
  rw [e1] at w2
  have hpar : (gen + 1) % 2 ≠ gen % 2 := by omega
  refine ⟨d', ⟨⟨w2.flu, by rw [w2.len, w1.len, hfn.len], by rw [w2.cuts, w1.cuts, hfn.cuts], by rw [w2.fails, w1.fails, hfn.fails], G.Ok.mono ok (by omega)⟩, w2.own ⟨(gen + 1) % 2, bs (supP (gen + 1) root)⟩ (by simp), hs, fun k y hy => ?_⟩, ?_, f.mono ?_⟩
  · have hr := h.rng k y hy
    rw [w2.oth k (by intro x hx; simp at hx; subst hx; show (gen + 1) % 2 ≠ k; omega)]
    have hmem : k ∈ keysOf q.fresh := G.mem_keys.2 ⟨by have := hr.2.1; dsimp only at this; omega, by rw [hfr k]; unfold frs; rw [hy]; rfl⟩
    have := w1.own ⟨k, whole (secOf q.fresh k)⟩ (by unfold G.wrl; exact List.mem_map.2 ⟨k, hmem, rfl⟩)
    have es : secOf q.fresh k = secOf (G.putM (fun _ => none) k (ndp k (gen + 1) y)) k := sec_same (by
      rw [hfr k]
      unfold frs G.putM ndp
      rw [hy, if_pos rfl])
    rw [this]
    show some (Sec.mk (whole (secOf q.fresh k)) false 0) = _
    rw [es]
  · rw [w2.oth (gen % 2) (by intro x hx; simp at hx; subst hx; exact hpar), w1.oth (gen % 2) (by
      intro x hx
      unfold G.wrl at hx
      obtain ⟨k, hk', rfl⟩ := List.mem_map.1 hx
      have := (hkeys k hk').1
      show k ≠ gen % 2
      omega), e2]
  · rintro r w' ⟨rfl, ⟨a, a1, a2, ga⟩, o⟩
    refine ⟨rfl, ?_, o⟩
    have := ga.disk
    rw [a1, a2] at this
    exact this
open Go.Proofs.YtifeihnhkbagpaaGreatDoor.D (CutsAt)
open B (R)

theorem one_leaf {M : Pm} {r : Int} {key x : ByteArray} (h : Tree M r [(key, ⟨x, -1, 0⟩)]) : ∃ (n : Nat) (y : Nd), r = (n : Int) ∧ M n = some y ∧ N.Good y ∧ Up y.ks ∧ y.leaf = true ∧ (∀ v ∈ y.vs, v.p = -1) ∧ Wf M 0 n ∧ (fm M 0 n).Pairwise R ∧ con (fm M 0 n) = [(key, ⟨x, -1, 0⟩)] := by
  rcases h with ⟨_, e, _⟩ | ⟨d, n, rfl, hTr, hc⟩
  · cases e
  · have hm := hTr.many.1
    rw [hc] at hm
    obtain rfl : d = 0 := by
      cases d with
      | zero => rfl
      | succ d =>
        have h3 : 2 ^ (d + 1) = 2 * 2 ^ d := by rw [Nat.pow_succ]; omega
        have := Nat.two_pow_pos d
        rw [h3] at hm
        simp only [List.length_cons, List.length_nil] at hm
        omega
    obtain ⟨y, hy, a, b, c⟩ := hTr.wf
    have ho := hTr.ord
    have ho' := ho
    rw [fm_some hy] at ho'
    have hl := (c.2.lv c.1).1
    refine ⟨n, y, rfl, hy, c.2, up_of c ho', c.1, ?_, hTr.wf, ho, hc⟩
    rw [fm_some hy, fmN_leaf, con_leaf] at hc
    have e2 : y.vs = (y.ks.zip y.vs).map (·.2) := by rw [List.map_snd_zip (by omega)]
    rw [hc] at e2
    intro v hv
    rw [e2] at hv
    simp at hv
    rw [hv]

set_option maxRecDepth 100000 in
set_option maxHeartbeats 1000000 in
theorem scommit_first {B : Nat} {w : World} {s d g n c : Nat} {dk : Dk} {key x : ByteArray} (h : So B w s d g n c 1 dk key x) (hB : B ≤ w.heap.size) (hc : c < 30000) :
    Calls Tryz.prog 15 #[.pointer (some ⟨s, 0, none⟩)] w fun e w' => e = .returned (.int .i64 0) ∧ (∃ dk' M r, Kd n (c + 1100) 2 dk' M r ∧ dk'.secs[1]? = dk.secs[1]? ∧ DiskAt B w' d g dk' ∧ Tree M r [(key, ⟨x, -1, 0⟩)] ∧ (∀ k y, M k = some y → 2 ≤ k ∧ k < n ∧ y.put.length ≤ 237) ∧ n ≤ 1024) ∧ Below B w w' := by
  obtain ⟨t, p, M, r, hS, hT, hV, tr, hbs, hbt⟩ := h.out
  obtain ⟨n0, y, rfl, hy, _⟩ := one_leaf tr
  have hr := hV.rng n0 y hy
  have hfew := hV.few
  dsimp only at hr hfew
  have hsup : Sup (1 + 1) ((n0 : Nat) : Int) := by unfold P.Sup; omega
  obtain ⟨dk', kd, es, f⟩ := pv_commit (hV.kept ((Kept.refl w).drew)) h.bd (by omega) hB hsup
  have f1 := err_walk hS
  have f2 := root_walk (hT.kept ((Kept.refl w).drew))
  obtain ⟨c0, c1, c2, c3, c4⟩ := hS.cs
  have HS : Hid (StAt w s d p t 0 false) := hS
  have HX : Hid (∀ W, DiskAt B W d g dk' → ∃ dk' M r, Kd n (c + 1100) 2 dk' M r ∧ dk'.secs[1]? = dk.secs[1]? ∧ DiskAt B W d g dk' ∧ Tree M r [(key, ⟨x, -1, 0⟩)] ∧ (∀ k y, M k = some y → 2 ≤ k ∧ k < n ∧ y.put.length ≤ 237) ∧ n ≤ 1024) := fun W hW => ⟨dk', M, _, kd, es, hW, tr, fun k y hy => by have := hV.rng k y hy; exact ⟨this.1, this.2.1, this.2.2.1⟩, hfew⟩
  have HT : Hid (∀ W b, DiskAt B W d g dk' → StAt W s d p t 0 b → ∀ i v, DiskAt B (W.setCell ⟨s, i, none⟩ v) d g dk') := fun W b hW hs i v => G.DiskAt.set hW hs.out (by unfold D.Quiet; decide) i v
  clear h hT hV tr kd es hy hr hfew hsup hc hS
  go_enter Tryz.func15, Tryz.ntmps15
  go_wp2_with (go_at_call 25; (with_reducible refine f1.mono ?_); rintro e w1 ⟨rfl, hw1⟩; rw [hw1]; clear hw1)
  go_region_held3 (fun W => W.cell? ⟨s, 1, none⟩ = some (.pointer (some ⟨p, 0, none⟩)) ∧ W.cell? ⟨s, 2, none⟩ = some (.pointer (some ⟨t, 0, none⟩))) (first | trivial | go_keep | exact e12) (first
    | (go_at_call 36; (with_reducible refine f2.mono ?_); rintro e w1 ⟨rfl, hw1⟩; rw [hw1]; clear hw1)
    | (go_at_call 35; (with_reducible refine f.mono ?_); rintro e w2 ⟨rfl, D2, o2⟩; have S2 : StAt w2 s d p t 0 false := StAt.on (W := w.drew) ⟨HS.out.out⟩ o2; obtain ⟨x0, x1, x2, x3, x4⟩ := S2.cs; have xf := S2.fz 3; have S3 := S2.set3 0; obtain ⟨z0, z1, z2, z3, z4⟩ := S3.cs; have zf := S3.fz 4; have S4 := S3.set4 false; obtain ⟨u0, u1, u2, u3, u4⟩ := S4.cs; have e12 : (w2.setCell ⟨s, 3, none⟩ (.int .i64 0)).cell? ⟨s, 1, none⟩ = some (.pointer (some ⟨p, 0, none⟩)) ∧ (w2.setCell ⟨s, 3, none⟩ (.int .i64 0)).cell? ⟨s, 2, none⟩ = some (.pointer (some ⟨t, 0, none⟩)) := ⟨z1, z2⟩; have HF : Hid (DiskAt B ((w2.setCell ⟨s, 3, none⟩ (.int .i64 0)).setCell ⟨s, 4, none⟩ (.bool false)) d g dk' ∧ Below B w ((w2.setCell ⟨s, 3, none⟩ (.int .i64 0)).setCell ⟨s, 4, none⟩ (.bool false))) := ⟨HT.out _ _ (HT.out _ _ D2 S2 _ _) S3 _ _, ((((Below.refl B w).drew).trans o2.below).setCell hbs _).setCell hbs _⟩; clear D2 o2 S2 S3 S4))
  all_goals go_wp2
  all_goals go_ret
  all_goals exact ⟨rfl, HX.out _ HF.out.1, HF.out.2⟩

theorem hl_none : ∀ m, hl (fun _ => none) m = 0
  | 0 => rfl
  | m + 1 => by simp [hl, hl_none m]

structure Sk (B : Nat) (W : World) (s d g n : Nat) (key x : ByteArray) : Prop where
  out : ∃ t p M L c u, ∃ n0 : Nat, StAt W s d p t 0 false ∧ TAt W t p (n0 : Nat) ∧ Cg B L W p d g n 2 c (n0 : Nat) M u ∧ Wf M 0 n0 ∧ (fm M 0 n0).Pairwise R ∧ con (fm M 0 n0) = [(key, ⟨x, -1, 0⟩)]

set_option maxRecDepth 100000 in
set_option maxHeartbeats 1000000 in
theorem open_kept {B : Nat} {w : World} {d g n c : Nat} {dk : Dk} {M : Pm} {r : Int} {key x : ByteArray} (h : DiskAt B w d g dk) (hB : B ≤ w.heap.size) (kd : Kd n c 2 dk M r) (h1 : dk.secs[1]? = some ⟨bs (supP 1 (-1)), false, 0⟩) (tr : Tree M r [(key, ⟨x, -1, 0⟩)]) (hr : ∀ k y, M k = some y → 2 ≤ k ∧ k < n ∧ y.put.length ≤ 237) (h3 : n ≤ 1024) (hc : c < 30000) :
    Calls Tryz.prog 10 #[.pointer (some ⟨d, 0, none⟩)] w fun e w' => ∃ s, e = .returned (.tuple #[.pointer (some ⟨s, 0, none⟩), .int .i64 0]) ∧ Sk B w' s d g n key x ∧ G.On B w w' := by
  obtain ⟨n0, y, rfl, hy, hg, hup, hlf, hv, hwf, ho, hcon⟩ := one_leaf tr
  have hr0 := hr n0 y hy
  have s0 := kd.own
  have fn := kd.fn
  have f1 := load_by hB (q := opened dk.begin.begin (2, (n0 : Nat))) (G.open_flu h hB fn.ok (by omega) fn.flu (fn.live 2) (by rw [fn.len]; omega) (by rw [fn.len]; exact h3) s0 h1 (o0 := some (2, ((n0 : Nat) : Int))) (o1 := some (1, -1)) (G.sd_state kd.sup rfl) (G.sd_state G.sup11 rfl) (2, ((n0 : Nat) : Int)) rfl)
    (fun w' p => ∃ L u, Cg B L w' p d g n 2 (c + 2) (n0 : Nat) M u) (by
      intro W0 W s t p hG k0 hB0 hS hT
      have fb := fn.begin.begin
      have hC0 : Cg B W0.heap.size W0 p d g n 2 (c + 2) (n0 : Nat) M G.ahead := by
        obtain ⟨a, a1, a2, ga⟩ := hG.out
        obtain ⟨_, _, m1⟩ := ga.fm.block
        obtain ⟨_, _, m2⟩ := ga.hm.block
        refine ⟨⟨a, _, ⟨a1, a2⟩, ⟨(Array.getElem?_eq_some_iff.1 m1).1, (Array.getElem?_eq_some_iff.1 m2).1⟩, ga, ⟨rfl, rfl, fb.len, rfl⟩, fun _ => rfl, ⟨fb.fails.symm, fb.cuts, fb.flu, fb.len, ?_⟩, fun k z hz => ⟨2, by decide, kd.pgs k z hz, .inl rfl⟩, fun k _ => ⟨rfl, rfl, rfl⟩⟩, hr, ⟨h3, by omega⟩⟩
        show Ok (c + 2 + hl (fun _ => none) n) _
        rw [hl_none]
        exact fb.ok
      refine (markAll_one hS ((Cg.stay B W0.heap.size p d g n 2 (c + 2) (n0 : Nat) M G.ahead).out _ _ hC0 (Aq.ofKept k0)) (Nat.le_trans hB0 k0.size) k0.size hT (by rw [ahead_two]; simp; omega) hy hg hup hlf hv).mono ?_
      rintro e w' ⟨rfl, C1, o1⟩
      exact ⟨rfl, ⟨_, _, C1⟩, o1⟩)
  have HQ : Hid (Wf M 0 n0 ∧ (fm M 0 n0).Pairwise R ∧ con (fm M 0 n0) = [(key, ⟨x, -1, 0⟩)]) := ⟨hwf, ho, hcon⟩
  clear h kd h1 tr hr hy hg hup hlf hv hwf ho hcon hr0 s0 fn hB
  go_enter Tryz.func10, Tryz.ntmps10
  go_wp2_with (go_at_call 31; (with_reducible refine f1.mono ?_); rintro e w1 ⟨s, t, p, rfl, S1, T1, ⟨L, u, C1⟩, l1, o1⟩; have HF : Hid (Sk B w1 s d g n key x ∧ G.On B w w1) := ⟨⟨t, p, M, L, _, u, n0, S1, T1, C1, HQ.out⟩, o1⟩; clear f1 S1 T1 C1 l1 o1)
  go_ret2
  exact ⟨s, rfl, HF.out⟩

theorem text_inline (w : World) (s : Option Addr) (x : ByteArray) (l : Int) : Calls Tryz.prog 41 #[.pointer s, .agg #[.string x, .int .i64 (-1), .int .i64 l]] w fun e w' => e = .returned (.tuple #[.string x, .int .i64 0]) ∧ Kept w w' := by
  obtain ⟨x0, x1, x2⟩ := (C3.alloc w 77 (.string x) (.int .i64 (-1)) (.int .i64 l)).cs
  go_enter Tryz.func41, Tryz.ntmps41
  go_wp2
  go_ret2
  exact ⟨rfl, (Kept.refl w).alloc _⟩

theorem Sk.kept {B : Nat} {W W' : World} {s d g n : Nat} {key x : ByteArray} (h : Sk B W s d g n key x) (k : Kept W W') : Sk B W' s d g n key x := by
  obtain ⟨t, p, M, L, c, u, n0, S1, T1, C1, r⟩ := h.out
  exact ⟨t, p, M, L, c, u, n0, S1.kept k, T1.kept k, (Cg.stay _ _ _ _ _ _ _ _ _ _ _).out _ _ C1 (Aq.ofKept k), r⟩

set_option maxRecDepth 100000 in
set_option maxHeartbeats 1000000 in
theorem sget_one {B : Nat} {w : World} {s d g n : Nat} {key x : ByteArray} (h : Sk B w s d g n key x) (hB : B ≤ w.heap.size) :
    Calls Tryz.prog 23 #[.pointer (some ⟨s, 0, none⟩), .string key] w fun e w' => e = .returned (.tuple #[.string x, .bool true, .int .i64 0]) ∧ Sk B w' s d g n key x ∧ G.On B w w' := by
  obtain ⟨t, p, M, L, c, u, n0, S1, T1, C1, hwf, ho, hcon⟩ := h.out
  have f1 := err_walk S1
  have f2 := get_by (key := key) (Cg.rdr B L p d g n 2 c (n0 : Nat) M u) T1 rfl C1 hB hwf ho (by decide)
  rw [hcon] at f2
  have eg : got key [(key, (⟨x, -1, 0⟩ : Vl))] = some ⟨x, -1, 0⟩ := by simp [got]
  have eh : had key [(key, (⟨x, -1, 0⟩ : Vl))] = ⟨x, -1, 0⟩ := by unfold had; rw [eg]; rfl
  rw [eg, eh] at f2
  dsimp only [Option.isSome_some] at f2
  have f3 : Hid (∀ W, Calls Tryz.prog 41 #[.pointer (some ⟨s, 0, none⟩), .agg #[.string x, .int .i64 (-1), .int .i64 0]] W fun e w' => e = .returned (.tuple #[.string x, .int .i64 0]) ∧ Kept W w') := fun W => text_inline W _ x 0
  obtain ⟨c0, c1, c2, c3, c4⟩ := S1.cs
  have HX : Hid (∀ W W', Ct B L (fun W => Cg B L W p d g n 2 c (n0 : Nat) M u) w W → Kept W W' → Sk B W' s d g n key x ∧ G.On B w W') := fun W W' k k' => ⟨Sk.kept ⟨t, p, M, L, c, u, n0, S1.on k.f.on, T1.on k.f.on, k.i, hwf, ho, hcon⟩ k', k.f.on.kept ⟨k'.out⟩ hB⟩
  clear h S1 T1 C1 hwf ho hcon hB eg eh
  go_enter Tryz.func23, Tryz.ntmps23
  go_wp2_with (first
    | (go_at_call 25; (with_reducible refine f1.mono ?_); rintro e w1 ⟨rfl, hw1⟩; rw [hw1]; clear hw1)
    | (go_at_call 40; (with_reducible refine f2.mono ?_); rintro e w2 ⟨rfl, k2⟩; have R3 := C3.alloc w2 77 (.string x) (.int .i64 (-1)) (.int .i64 0); have ka : Kept w2 (w2.alloc (.cells #[.string x, .int .i64 (-1), .int .i64 0] 77)) := (Kept.refl w2).alloc _; obtain ⟨r0, r1, r2⟩ := R3.cs; clear f2)
    | (go_at_call 41; (with_reducible refine (f3.out _).mono ?_); rintro e w3 ⟨rfl, k3⟩; have HF := HX.out _ _ k2 (ka.trans k3); clear f3))
  go_ret3
  exact ⟨rfl, HF⟩

theorem sgen_walk {B : Nat} {w : World} {s d p t g : Nat} {err : Int} {db : Bool} {q : G.Pq} (hS : StAt w s d p t err db) (hG : G.GAt B w p d g q) : Calls Tryz.prog 27 #[.pointer (some ⟨s, 0, none⟩)] w fun e w' => e = .returned (.int .u64 (q.gen : Nat)) ∧ Kept w w' := by
  obtain ⟨c0, c1, c2, c3, c4⟩ := hS.cs
  have f1 := G.state_walk hG
  generalize q.gen = gn at *
  generalize q.root = rt at *
  have hfl : ∀ W, (Instr.field 88 (.agg #[.int .u64 (gn : Nat), .int .i64 rt]) 0).run Tryz.prog W = .ok (.int .u64 (gn : Nat)) W := fun W => sup_gen _ _ W
  go_enter Tryz.func27, Tryz.ntmps27
  go_wp2_with (go_at_call 44; (with_reducible refine f1.mono ?_); rintro e w1 ⟨rfl, k1⟩)
  go_ret
  exact ⟨rfl, ⟨k1.out⟩⟩
theorem Sk.gen {B : Nat} {w : World} {s d g n : Nat} {key x : ByteArray} (h : Sk B w s d g n key x) : Calls Tryz.prog 27 #[.pointer (some ⟨s, 0, none⟩)] w fun e w' => e = .returned (.int .u64 2) ∧ Kept w w' := by
  obtain ⟨t, p, M, L, c, u, n0, S1, T1, C1, _⟩ := h.out
  obtain ⟨a, q, e1, _, hG, eg, _⟩ := C1.out
  have := sgen_walk S1 (q := q) (g := g) (B := B) ⟨a, e1.1, e1.2, hG⟩
  rw [eg.1] at this
  exact this

set_option maxRecDepth 100000 in
set_option maxHeartbeats 2000000 in
theorem awake_walk {w : World} (hL : S.Lds w) : Calls Tryz.prog 9 #[] w fun e w' => e = .returned (.bool true) ∧ Kept w w' := by
  have h : CutsAt 0 w (.slice none 0 0) [] := ⟨none, 0, rfl, Nat.le_refl _, Nat.zero_le _, fun j hj => by cases hj⟩
  have f1 : Calls Tryz.prog 8 #[.int .i64 40, .slice none 0 0] w _ := D.new_walk 40 (by omega) h (Nat.zero_le _) (Nat.zero_le _) (by intro _ h; cases h)
  have f2 : Hid (∀ W b g, DiskAt w.heap.size W b g (Dk.new 40 []) → Kept w W → Calls Tryz.prog 10 #[.pointer (some ⟨b, 0, none⟩)] W fun e w' => ∃ s dk, e = .returned (.tuple #[.pointer (some ⟨s, 0, none⟩), .int .i64 0]) ∧ (Se w.heap.size w' s b g 40 9 1 dk ∧ Bn 40 9 dk) ∧ Kept w w') := fun W b g hD k => by
    refine (open_new hD k.size (by decide) (by decide)).mono ?_
    rintro e w' ⟨s, dk, rfl, a1, a2, o⟩
    exact ⟨s, dk, rfl, ⟨a1, a2⟩, ⟨k.out.trans o.below⟩⟩
  have f3 : Hid (∀ W s b g dk, Se w.heap.size W s b g 40 9 1 dk → Kept w W → Calls Tryz.prog 17 #[.pointer (some ⟨s, 0, none⟩), .string ⟨#[97]⟩, .string ⟨#[49]⟩] W fun e w' => e = .returned (.int .i64 0) ∧ So w.heap.size w' s b g 40 9 1 dk ⟨#[97]⟩ ⟨#[49]⟩ ∧ Kept w w') := fun W s b g dk hS k => by
    refine (sput_first hS k.size (lds_kept hL k) (by decide) ⟨#[97]⟩ ⟨#[49]⟩ (by decide) (by decide)).mono ?_
    rintro e w' ⟨rfl, a1, o⟩
    exact ⟨rfl, a1, ⟨k.out.trans o⟩⟩
  have f4 : Hid (∀ W s b g dk, So w.heap.size W s b g 40 9 1 dk ⟨#[97]⟩ ⟨#[49]⟩ → Bn 40 9 dk → Kept w W → Calls Tryz.prog 15 #[.pointer (some ⟨s, 0, none⟩)] W fun e w' => e = .returned (.int .i64 0) ∧ (∃ dk' M r, Kd 40 1109 2 dk' M r ∧ dk'.secs[1]? = some ⟨bs (supP 1 (-1)), false, 0⟩ ∧ DiskAt w.heap.size w' b g dk' ∧ Tree M r [(⟨#[97]⟩, ⟨⟨#[49]⟩, -1, 0⟩)] ∧ (∀ k y, M k = some y → 2 ≤ k ∧ k < 40 ∧ y.put.length ≤ 237)) ∧ Kept w w') := fun W s b g dk hS hD k => by
    refine (scommit_first hS k.size (by decide)).mono ?_
    rintro e w' ⟨rfl, ⟨dk', M, r, a1, a2, a3, a4, a5, _⟩, o⟩
    exact ⟨rfl, ⟨dk', M, r, a1, a2.trans hD.s1, a3, a4, a5⟩, ⟨k.out.trans o⟩⟩
  have f5 : Hid (∀ W b g, (∃ dk' M r, Kd 40 1109 2 dk' M r ∧ dk'.secs[1]? = some ⟨bs (supP 1 (-1)), false, 0⟩ ∧ DiskAt w.heap.size W b g dk' ∧ Tree M r [(⟨#[97]⟩, ⟨⟨#[49]⟩, -1, 0⟩)] ∧ (∀ k y, M k = some y → 2 ≤ k ∧ k < 40 ∧ y.put.length ≤ 237)) → Kept w W → Calls Tryz.prog 10 #[.pointer (some ⟨b, 0, none⟩)] W fun e w' => ∃ s, e = .returned (.tuple #[.pointer (some ⟨s, 0, none⟩), .int .i64 0]) ∧ Sk w.heap.size w' s b g 40 ⟨#[97]⟩ ⟨#[49]⟩ ∧ Kept w w') := fun W b g hx k => by
    obtain ⟨dk', M, r, a1, a2, a3, a4, a5⟩ := hx
    refine (open_kept a3 k.size a1 a2 a4 a5 (by decide) (by decide)).mono ?_
    rintro e w' ⟨s, rfl, a, o⟩
    exact ⟨s, rfl, a, ⟨k.out.trans o.below⟩⟩
  have f6 : Hid (∀ W s b g, Sk w.heap.size W s b g 40 ⟨#[97]⟩ ⟨#[49]⟩ → Kept w W → Calls Tryz.prog 23 #[.pointer (some ⟨s, 0, none⟩), .string ⟨#[97]⟩] W fun e w' => e = .returned (.tuple #[.string ⟨#[49]⟩, .bool true, .int .i64 0]) ∧ Sk w.heap.size w' s b g 40 ⟨#[97]⟩ ⟨#[49]⟩ ∧ Kept w w') := fun W s b g hS k => by
    refine (sget_one hS k.size).mono ?_
    rintro e w' ⟨rfl, a, o⟩
    exact ⟨rfl, a, ⟨k.out.trans o.below⟩⟩
  have f7 : Hid (∀ W s b g, Sk w.heap.size W s b g 40 ⟨#[97]⟩ ⟨#[49]⟩ → Kept w W → Calls Tryz.prog 27 #[.pointer (some ⟨s, 0, none⟩)] W fun e w' => e = .returned (.int .u64 2) ∧ Kept w w') := fun W s b g hS k => by
    refine hS.gen.mono ?_
    rintro e w' ⟨rfl, k'⟩
    exact ⟨rfl, k.trans k'⟩
  clear h hL
  generalize Dk.new 40 [] = dn at f1 f2
  go_enter Tryz.func9, Tryz.ntmps9
  go_wp2_with (first
    | (go_at_call 8; (with_reducible refine f1.mono ?_); rintro e w1 ⟨b, g, rfl, D1, k1⟩; have g2 := f2.out _ b g D1 ⟨k1.out⟩; clear f1 f2 D1 k1)
    | (go_at_call 10; (with_reducible refine g2.mono ?_); rintro e w2 ⟨s, dk, rfl, ⟨S2, B2⟩, k2⟩; have g3 := f3.out _ s b g dk S2 k2; have HB2 : Hid (Bn 40 9 dk) := B2; clear g2 f3 S2 B2 k2)
    | (go_at_call 17; (with_reducible refine g3.mono ?_); rintro e w3 ⟨rfl, S3, k3⟩; have g4 := f4.out _ s b g dk S3 HB2.out k3; clear g3 f4 S3 k3)
    | (go_at_call 15; (with_reducible refine g4.mono ?_); rintro e w4 ⟨rfl, x4, k4⟩; have g5 := f5.out _ b g x4 k4; clear g4 f5 x4 k4)
    | (go_at_call 10; (with_reducible refine g5.mono ?_); rintro e w5 ⟨s', rfl, S5, k5⟩; have g6 := f6.out _ s' b g S5 k5; clear g5 f6 S5 k5)
    | (go_at_call 23; (with_reducible refine g6.mono ?_); rintro e w6 ⟨rfl, S6, k6⟩; have g7 := f7.out _ s' b g S6 k6; clear g6 f7 S6 k6)
    | (go_at_call 27; (with_reducible refine g7.mono ?_); rintro e w7 ⟨rfl, k7⟩; clear g7))
  go_ret
  exact ⟨by first | rfl | decide, k7⟩
end Go.Proofs.YtifeihnhkbagpaaGreatDoor.T