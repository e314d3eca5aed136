/- Joined: TB TC TD TE XA TF TG TH TI TK TJ TL TM TN TOa TOb TOc TOd TOe TOf TP TQ TR TS TT TU. What is proved of the functions beneath StoreNone. Conditions: those that each row names. -/
import Derived.Test.YtifeihnhkbagpaaGreatDoorZbb
import Derived.Test.YtifeihnhkbagpaaGreatDoorZbd
import Derived.Test.YtifeihnhkbagpaaGreatDoorZbe
import Derived.Test.YtifeihnhkbagpaaGreatDoorZbf
import Derived.Deep.QuietTactic
import Derived.BigQuiet
import Derived.Deep.RegionHeld3
import Derived.Deep.DrawnRows
import Derived.LoopN
import Derived.Deep.RegionLaw
namespace Go.Proofs.YtifeihnhkbagpaaGreatDoor.T
open Go.ChangeShapes Go.WideShapes Go.ChangeAt Go.RowKit
open B (Pm pt drp)
open N (Nd NV Rw Rx Kept kcl vcl icl Vl C4)

structure TAt (W : World) (t p : Nat) (root : Int) : Prop where
  out : W.heap[t]? = some (.cells #[.pointer (some ⟨p, 0, none⟩), .int .i64 root] 110)
theorem TAt.kept {W W' : World} {t p : Nat} {root : Int} (h : TAt W t p root) (k : Kept W W') : TAt W' t p root := ⟨(k.out.block t (Array.getElem?_eq_some_iff.1 h.out).1).trans h.out⟩
theorem TAt.cs {W : World} {t p : Nat} {root : Int} (h : TAt W t p root) : W.cell? ⟨t, 0, none⟩ = some (.pointer (some ⟨p, 0, none⟩)) ∧ W.cell? ⟨t, 1, none⟩ = some (.int .i64 root) := by
  refine ⟨?_, ?_⟩ <;> (rw [cell_of_row W t _ _ _ _ h.out]; rfl)
theorem calm110 : G.Calm 110 := by unfold G.Calm D.Calm; decide
theorem calm9 : G.Calm 9 := by unfold G.Calm D.Calm; decide
theorem calm77 : G.Calm 77 := by unfold G.Calm D.Calm; decide
theorem calm3 : G.Calm 3 := by unfold G.Calm D.Calm; decide
theorem calm121 : G.Calm 121 := by unfold G.Calm D.Calm; decide
theorem calm170 : G.Calm 170 := by unfold G.Calm D.Calm; decide
theorem calm196 : G.Calm 196 := by unfold G.Calm D.Calm; decide
theorem TAt.on {B : Nat} {W W' : World} {t p : Nat} {root : Int} (h : TAt W t p root) (o : G.On B W W') : TAt W' t p root := ⟨o.rows _ _ _ _ h.out calm110⟩

theorem rx_on {B : Nat} {w w' : World} (o : G.On B w w') {e : TypeId} (he : G.Calm e) {p : Option Addr} {c : Nat} (h : Rx w e p c) : Rx w' e p c :=
  ⟨(fun b off ph hp => by obtain ⟨cs, fr, hb⟩ := h.typ b off ph hp; exact ⟨cs, fr, o.rows _ _ _ _ hb he⟩), h.nil⟩
theorem rw_on {B : Nat} {w w' : World} (o : G.On B w w') {e : TypeId} (he : G.Calm e) {sz : Nat} {p : Option Addr} {n c : Nat} {cs : List Value} (h : Rw w sz p n c cs) (hx : Rx w e p c) : Rw w' sz p n c cs := by
  refine ⟨h.len, h.le, h.cap, ?_⟩
  rcases h.out with h0 | ⟨b, off, rfl, f⟩
  · exact .inl h0
  · refine .inr ⟨b, off, rfl, fun j u hu => ?_⟩
    obtain ⟨cs', fr, hb⟩ := hx.typ b off none rfl
    rw [← f j u hu]
    exact World.cell?_of_block ((o.rows _ _ _ _ hb he).trans hb.symm)
theorem nv_on {B : Nat} {w w' : World} (o : G.On B w w') {l : Bool} {kp : Option Addr} {nk kc : Nat} {vp : Option Addr} {nv vc : Nat} {ip : Option Addr} {ni ic : Nat} {x : Nd} (h : NV w l kp nk kc vp nv vc ip ni ic x) : NV w' l kp nk kc vp nv vc ip ni ic x :=
  ⟨h.hl, rw_on o calm9 h.k h.kx, rw_on o calm77 h.v h.vx, rw_on o calm3 h.i h.ix, rx_on o calm9 h.kx, rx_on o calm77 h.vx, rx_on o calm3 h.ix⟩

theorem none_walk {w : World} {t p : Nat} {root : Int} (h : TAt w t p root) : Calls Tryz.prog 57 #[.pointer (some ⟨t, 0, none⟩)] w fun e w' => e = .returned (.bool false) ∧ w' = w := by
  obtain ⟨c0, c1⟩ := h.cs
  go_enter Tryz.func57, Tryz.ntmps57
  go_wp2
  go_ret
  exact ⟨rfl, rfl⟩
theorem root_walk {w : World} {t p : Nat} {root : Int} (h : TAt w t p root) : Calls Tryz.prog 36 #[.pointer (some ⟨t, 0, none⟩)] w fun e w' => e = .returned (.int .i64 root) ∧ w' = w := by
  obtain ⟨c0, c1⟩ := h.cs
  have f := none_walk h
  go_enter Tryz.func36, Tryz.ntmps36
  go_wp2_with (go_at_call 57; (with_reducible refine f.mono ?_); rintro e w1 ⟨rfl, hw1⟩; rw [hw1]; clear hw1)
  go_ret
  exact ⟨rfl, rfl⟩
theorem new_walk (w : World) (p : Nat) (root : Int) : Calls Tryz.prog 59 #[.pointer (some ⟨p, 0, none⟩), .int .i64 root] w fun e w' => e = .returned (.pointer (some ⟨w.heap.size, 0, none⟩)) ∧ TAt w' w.heap.size p root ∧ Kept w w' := by
  go_enter Tryz.func59, Tryz.ntmps59
  go_wp2
  go_ret
  exact ⟨rfl, ⟨heap_alloc_new w _⟩, (Kept.refl w).alloc _⟩
theorem mayKey_walk (w : World) (k : ByteArray) : Calls Tryz.prog 84 #[.string k] w fun e w' => e = .returned (.bool (decide (k.size ≤ 64))) ∧ w' = w := by
  go_enter Tryz.func84, Tryz.ntmps84
  go_wp2
  go_ret
  refine ⟨?_, rfl⟩
  congr 2
  simp
  omega

structure CAt (W : World) (c t : Nat) (v : Value) : Prop where
  out : W.heap[c]? = some (.cells #[.pointer (some ⟨t, 0, none⟩), v] 196)
theorem CAt.kept {W W' : World} {c t : Nat} {v : Value} (h : CAt W c t v) (k : Kept W W') : CAt W' c t v := ⟨(k.out.block c (Array.getElem?_eq_some_iff.1 h.out).1).trans h.out⟩
theorem CAt.on {B : Nat} {W W' : World} {c t : Nat} {v : Value} (h : CAt W c t v) (o : G.On B W W') : CAt W' c t v := ⟨o.rows _ _ _ _ h.out calm196⟩
theorem CAt.cs {W : World} {c t : Nat} {v : Value} (h : CAt W c t v) : W.cell? ⟨c, 0, none⟩ = some (.pointer (some ⟨t, 0, none⟩)) ∧ W.cell? ⟨c, 1, none⟩ = some v := by
  refine ⟨?_, ?_⟩ <;> (rw [cell_of_row W c _ _ _ _ h.out]; rfl)

theorem lds_kept {w w' : World} (h : S.Lds w) (k : Kept w w') : S.Lds w' := h.kept ⟨k.out⟩
theorem c4_on {B : Nat} {w w' : World} (o : G.On B w w') {b : Nat} {a0 a1 a2 a3 : Value} (h : C4 w b 121 a0 a1 a2 a3) : C4 w' b 121 a0 a1 a2 a3 := ⟨o.rows _ _ _ _ h.out calm121⟩

set_option maxRecDepth 100000 in
set_option maxHeartbeats 1000000 in
theorem add_some {B : Nat} {w : World} {c t p : Nat} {m : Xm} {n : Nat} {jv : Value} {root : Int} {M : Pm} (hC : CAt w c t jv) (hT : TAt w t p root) (h : Pv B w p m M) (hB : B ≤ w.heap.size) (hL : S.Lds w) {l : Bool} {kp : Option Addr} {nk kc : Nat} {vp : Option Addr} {nv vc : Nat} {ip : Option Addr} {ni ic : Nat} {x : Nd} (hx : NV w l kp nk kc vp nv vc ip ni ic x) (g : N.Good x) (hs : x.put.length ≤ 237) (hf : frst M m = some n) :
    Calls Tryz.prog 151 #[.pointer (some ⟨c, 0, none⟩), .agg #[.bool l, .slice kp nk kc, .slice vp nv vc, .slice ip ni ic]] w fun e w' => e = .returned (.tuple #[.int .i64 (n : Nat), .int .i64 0]) ∧ Pv B w' p m (pt M n x) ∧ G.On B w w' := by
  have K0 : Kept w (w.alloc (.cells #[.bool l, .slice kp nk kc, .slice vp nv vc, .slice ip ni ic] 121)) := (Kept.refl w).alloc _
  have X0 := C4.alloc w 121 (.bool l) (.slice kp nk kc) (.slice vp nv vc) (.slice ip ni ic)
  have HP : Hid (∀ W, Kept w W → Calls Tryz.prog 180 #[.agg #[.bool l, .slice kp nk kc, .slice vp nv vc, .slice ip ni ic]] W fun e w' => e = .returned (.string (N.bs x.put)) ∧ Kept W w') := fun W k => N.put_walk (hx.kept k) g
  have HA : Hid (∀ W, Kept w W → Calls Tryz.prog 128 #[.pointer (some ⟨p, 0, none⟩), .int .i64 (kindOf x), .string (N.bs x.put)] W fun e w' => e = .returned (.tuple #[.int .i64 (n : Nat), .int .i64 0]) ∧ Pv B w' p m (pt M n x) ∧ G.On B W w') := fun W k => (h.kept k).add_some (Nat.le_trans hB k.size) (lds_kept hL k) x hs hf
  have hk : kindOf x = if l = true then 2 else 3 := by unfold kindOf; rw [hx.hl]
  rw [hk] at HA
  obtain ⟨c0, c1⟩ := (hC.kept K0).cs
  obtain ⟨t0, t1⟩ := (hT.kept K0).cs
  obtain ⟨x0, x1, x2, x3⟩ := X0.cs
  have HC : Hid (CAt w c t jv) := hC
  have HT : Hid (TAt w t p root) := hT
  have HV : Hid (Pv B w p m M) := h
  generalize N.bs x.put = sx at HP HA
  clear hx g hs hk h hC hT hf
  cases l with
  | true =>
    simp only [if_true] at HA
    go_enter Tryz.func151, Tryz.ntmps151
    go_wp2
    go_region_held3 (fun W => W.cell? ⟨c, 0, none⟩ = some (.pointer (some ⟨t, 0, none⟩)) ∧ W.cell? ⟨t, 0, none⟩ = some (.pointer (some ⟨p, 0, none⟩)) ∧ W.cell? ⟨w.heap.size, 0, none⟩ = some (.bool true) ∧ W.cell? ⟨w.heap.size, 1, none⟩ = some (.slice kp nk kc) ∧ W.cell? ⟨w.heap.size, 2, none⟩ = some (.slice vp nv vc) ∧ W.cell? ⟨w.heap.size, 3, none⟩ = some (.slice ip ni ic)) (first | trivial | go_keep) (first
      | (go_at_call 180; (with_reducible refine (HP.out _ (by first | exact K0.drew | exact K0)).mono ?_); rintro e w1 ⟨rfl, k1⟩; have K1 : Kept w w1 := Kept.trans (by first | exact K0.drew | exact K0) k1; obtain ⟨d0, d1⟩ := (HC.out.kept K1).cs; obtain ⟨e0, e1⟩ := (HT.out.kept K1).cs; have X1 : C4 w1 w.heap.size 121 (.bool true) (.slice kp nk kc) (.slice vp nv vc) (.slice ip ni ic) := C4.kept (by first | exact X0.drew | exact X0) k1; obtain ⟨y0, y1, y2, y3⟩ := X1.cs)
      | (go_at_call 128; (with_reducible refine (HA.out _ K1).mono ?_); rintro e w2 ⟨rfl, h2, o2⟩; obtain ⟨d0, d1⟩ := ((HC.out.kept K1).on o2).cs; obtain ⟨e0, e1⟩ := ((HT.out.kept K1).on o2).cs; obtain ⟨y0, y1, y2, y3⟩ := (c4_on o2 X1).cs))
    all_goals go_wp2
    all_goals go_ret2
    all_goals exact ⟨rfl, by first | exact h2 | exact h2.kept ((Kept.refl _).drew), by first | exact (G.On.ofKept ⟨K1.out⟩ hB).trans o2 | exact ((G.On.ofKept ⟨K1.out⟩ hB).trans o2).drew⟩
  | false =>
    simp only [Bool.false_eq_true, if_false] at HA
    go_enter Tryz.func151, Tryz.ntmps151
    go_wp2
    go_region_held3 (fun W => W.cell? ⟨c, 0, none⟩ = some (.pointer (some ⟨t, 0, none⟩)) ∧ W.cell? ⟨t, 0, none⟩ = some (.pointer (some ⟨p, 0, none⟩)) ∧ W.cell? ⟨w.heap.size, 0, none⟩ = some (.bool false) ∧ W.cell? ⟨w.heap.size, 1, none⟩ = some (.slice kp nk kc) ∧ W.cell? ⟨w.heap.size, 2, none⟩ = some (.slice vp nv vc) ∧ W.cell? ⟨w.heap.size, 3, none⟩ = some (.slice ip ni ic)) (first | trivial | go_keep) (first
      | (go_at_call 180; (with_reducible refine (HP.out _ (by first | exact K0.drew | exact K0)).mono ?_); rintro e w1 ⟨rfl, k1⟩; have K1 : Kept w w1 := Kept.trans (by first | exact K0.drew | exact K0) k1; obtain ⟨d0, d1⟩ := (HC.out.kept K1).cs; obtain ⟨e0, e1⟩ := (HT.out.kept K1).cs; have X1 : C4 w1 w.heap.size 121 (.bool false) (.slice kp nk kc) (.slice vp nv vc) (.slice ip ni ic) := C4.kept (by first | exact X0.drew | exact X0) k1; obtain ⟨y0, y1, y2, y3⟩ := X1.cs)
      | (go_at_call 128; (with_reducible refine (HA.out _ K1).mono ?_); rintro e w2 ⟨rfl, h2, o2⟩; obtain ⟨d0, d1⟩ := ((HC.out.kept K1).on o2).cs; obtain ⟨e0, e1⟩ := ((HT.out.kept K1).on o2).cs; obtain ⟨y0, y1, y2, y3⟩ := (c4_on o2 X1).cs))
    all_goals go_wp2
    all_goals go_ret2
    all_goals exact ⟨rfl, by first | exact h2 | exact h2.kept ((Kept.refl _).drew), by first | exact (G.On.ofKept ⟨K1.out⟩ hB).trans o2 | exact ((G.On.ofKept ⟨K1.out⟩ hB).trans o2).drew⟩

set_option maxRecDepth 100000 in
set_option maxHeartbeats 1000000 in
theorem add_none {B : Nat} {w : World} {c t p : Nat} {m : Xm} {jv : Value} {root : Int} {M : Pm} (hC : CAt w c t jv) (hT : TAt w t p root) (h : Pv B w p m M) (_ : B ≤ w.heap.size) (hL : S.Lds w) {l : Bool} {kp : Option Addr} {nk kc : Nat} {vp : Option Addr} {nv vc : Nat} {ip : Option Addr} {ni ic : Nat} {x : Nd} (hx : NV w l kp nk kc vp nv vc ip ni ic x) (g : N.Good x) (_ : x.put.length ≤ 237) (hf : frst M m = none) :
    Calls Tryz.prog 151 #[.pointer (some ⟨c, 0, none⟩), .agg #[.bool l, .slice kp nk kc, .slice vp nv vc, .slice ip ni ic]] w fun e w' => e = .returned (.tuple #[.int .i64 0, .int .i64 80]) ∧ Kept w w' := by
  have K0 : Kept w (w.alloc (.cells #[.bool l, .slice kp nk kc, .slice vp nv vc, .slice ip ni ic] 121)) := (Kept.refl w).alloc _
  have X0 := C4.alloc w 121 (.bool l) (.slice kp nk kc) (.slice vp nv vc) (.slice ip ni ic)
  have HP : Hid (∀ W, Kept w W → Calls Tryz.prog 180 #[.agg #[.bool l, .slice kp nk kc, .slice vp nv vc, .slice ip ni ic]] W fun e w' => e = .returned (.string (N.bs x.put)) ∧ Kept W w') := fun W k => N.put_walk (hx.kept k) g
  have HA : Hid (∀ W, Kept w W → Calls Tryz.prog 128 #[.pointer (some ⟨p, 0, none⟩), .int .i64 (kindOf x), .string (N.bs x.put)] W fun e w' => e = .returned (.tuple #[.int .i64 0, .int .i64 80]) ∧ w' = W) := fun W k => (h.kept k).add_none (lds_kept hL k) _ _ hf
  have hk : kindOf x = if l = true then 2 else 3 := by unfold kindOf; rw [hx.hl]
  rw [hk] at HA
  obtain ⟨c0, c1⟩ := (hC.kept K0).cs
  obtain ⟨t0, t1⟩ := (hT.kept K0).cs
  obtain ⟨x0, x1, x2, x3⟩ := X0.cs
  have HC : Hid (CAt w c t jv) := hC
  have HT : Hid (TAt w t p root) := hT
  have HV : Hid (Pv B w p m M) := h
  generalize N.bs x.put = sx at HP HA
  clear hx g hk h hC hT hf
  cases l with
  | true =>
    simp only [if_true] at HA
    go_enter Tryz.func151, Tryz.ntmps151
    go_wp2
    go_region_held3 (fun W => W.cell? ⟨c, 0, none⟩ = some (.pointer (some ⟨t, 0, none⟩)) ∧ W.cell? ⟨t, 0, none⟩ = some (.pointer (some ⟨p, 0, none⟩)) ∧ W.cell? ⟨w.heap.size, 0, none⟩ = some (.bool true) ∧ W.cell? ⟨w.heap.size, 1, none⟩ = some (.slice kp nk kc) ∧ W.cell? ⟨w.heap.size, 2, none⟩ = some (.slice vp nv vc) ∧ W.cell? ⟨w.heap.size, 3, none⟩ = some (.slice ip ni ic)) (first | trivial | go_keep) (first
      | (go_at_call 180; (with_reducible refine (HP.out _ (by first | exact K0.drew | exact K0)).mono ?_); rintro e w1 ⟨rfl, k1⟩; have K1 : Kept w w1 := Kept.trans (by first | exact K0.drew | exact K0) k1; obtain ⟨d0, d1⟩ := (HC.out.kept K1).cs; obtain ⟨e0, e1⟩ := (HT.out.kept K1).cs; have X1 : C4 w1 w.heap.size 121 (.bool true) (.slice kp nk kc) (.slice vp nv vc) (.slice ip ni ic) := C4.kept (by first | exact X0.drew | exact X0) k1; obtain ⟨y0, y1, y2, y3⟩ := X1.cs)
      | (go_at_call 128; (with_reducible refine (HA.out _ K1).mono ?_); rintro e w2 ⟨rfl, hw2⟩; rw [hw2]; clear hw2))
    all_goals go_wp2
    all_goals go_ret2
    all_goals exact ⟨rfl, by first | exact K1 | exact K1.drew⟩
  | false =>
    simp only [Bool.false_eq_true, if_false] at HA
    go_enter Tryz.func151, Tryz.ntmps151
    go_wp2
    go_region_held3 (fun W => W.cell? ⟨c, 0, none⟩ = some (.pointer (some ⟨t, 0, none⟩)) ∧ W.cell? ⟨t, 0, none⟩ = some (.pointer (some ⟨p, 0, none⟩)) ∧ W.cell? ⟨w.heap.size, 0, none⟩ = some (.bool false) ∧ W.cell? ⟨w.heap.size, 1, none⟩ = some (.slice kp nk kc) ∧ W.cell? ⟨w.heap.size, 2, none⟩ = some (.slice vp nv vc) ∧ W.cell? ⟨w.heap.size, 3, none⟩ = some (.slice ip ni ic)) (first | trivial | go_keep) (first
      | (go_at_call 180; (with_reducible refine (HP.out _ (by first | exact K0.drew | exact K0)).mono ?_); rintro e w1 ⟨rfl, k1⟩; have K1 : Kept w w1 := Kept.trans (by first | exact K0.drew | exact K0) k1; obtain ⟨d0, d1⟩ := (HC.out.kept K1).cs; obtain ⟨e0, e1⟩ := (HT.out.kept K1).cs; have X1 : C4 w1 w.heap.size 121 (.bool false) (.slice kp nk kc) (.slice vp nv vc) (.slice ip ni ic) := C4.kept (by first | exact X0.drew | exact X0) k1; obtain ⟨y0, y1, y2, y3⟩ := X1.cs)
      | (go_at_call 128; (with_reducible refine (HA.out _ K1).mono ?_); rintro e w2 ⟨rfl, hw2⟩; rw [hw2]; clear hw2))
    all_goals go_wp2
    all_goals go_ret2
    all_goals exact ⟨rfl, by first | exact K1 | exact K1.drew⟩

open N (Nw Up)

theorem place_walk {w : World} {l : Bool} {kp : Option Addr} {nk kc : Nat} {vp : Option Addr} {nv vc : Nat} {ip : Option Addr} {ni ic : Nat} {x : Nd} (h : NV w l kp nk kc vp nv vc ip ni ic x) (g : N.Good x) (key : ByteArray) :
    Calls Tryz.prog 95 #[.agg #[.bool l, .slice kp nk kc, .slice vp nv vc, .slice ip ni ic], .string key] w fun e w' => e = .returned (.int .i64 (B.plc x key : Nat)) ∧ Kept w w' := by
  have K0 : Kept w (w.alloc (.cells #[.bool l, .slice kp nk kc, .slice vp nv vc, .slice ip ni ic] 121)) := (Kept.refl w).alloc _
  have X0 := C4.alloc w 121 (.bool l) (.slice kp nk kc) (.slice vp nv vc) (.slice ip ni ic)
  obtain ⟨x0, x1, x2, x3⟩ := X0.cs
  have hn := h.nk
  have hf := g.few
  have f := N.find_walk ((h.kept K0).k) (by omega) key
  have hle := N.fnd_le key x.ks
  have HP : Hid (B.plc x key = N.fnd key x.ks + (if N.isk key x.ks = true then 1 else 0)) := rfl
  have hb : N.fnd key x.ks ≤ 120 := by omega
  generalize N.fnd key x.ks = i at *
  generalize N.isk key x.ks = b at *
  clear hle hf hn h g
  cases b with
  | true =>
    go_enter Tryz.func95, Tryz.ntmps95
    go_wp2_with (go_at_call 64; (with_reducible refine f.mono ?_); rintro e w1 ⟨rfl, hw1⟩; rw [hw1]; clear hw1)
    go_ret
    refine ⟨?_, K0⟩
    rw [HP.out]; simp
  | false =>
    go_enter Tryz.func95, Tryz.ntmps95
    go_wp2_with (go_at_call 64; (with_reducible refine f.mono ?_); rintro e w1 ⟨rfl, hw1⟩; rw [hw1]; clear hw1)
    go_ret
    refine ⟨?_, K0⟩
    rw [HP.out]; simp
open N (Own)

theorem own_nil (w : World) (B : Nat) (e : TypeId) (sz : Nat) : Own w B e sz none 0 0 [] := ⟨World.ownsRow_nil _ _ _ _⟩
theorem one_cell (w : World) (v : Value) (t : TypeId) : ∀ j u, [v][j]? = some u → (w.alloc (.cells #[v] t)).cell? ((⟨w.heap.size, 0, none⟩ : Addr).add j) = some u := by
  intro j u hj
  rw [Addr.add_lit, Nat.zero_add, cell_of_row _ _ _ _ _ _ (heap_alloc_new w (.cells #[v] t))]
  cases j with
  | zero => simpa using hj
  | succ j => simp at hj
theorem owns_shape {w : World} {B : Nat} {e : TypeId} {sz : Nat} {v : Value} {n : Nat} {cs : List Value} (h : w.ownsRow B e sz v n cs) : ∃ p c, v = .slice p n c := by
  rcases h.2 with ⟨rfl, rfl⟩ | ⟨g, cap, cur, rfl, _⟩
  · exact ⟨_, _, rfl⟩
  · exact ⟨_, _, rfl⟩

theorem own_on {B B' : Nat} {w w' : World} (o : G.On B w w') {e : TypeId} (he : G.Calm e) {sz : Nat} {p : Option Addr} {n c : Nat} {cs : List Value} (h : Own w B' e sz p n c cs) : Own w' B' e sz p n c cs := by
  refine ⟨h.out.1, ?_⟩
  rcases h.out.2 with h1 | ⟨g, cap, cur, e1, e2, e3, e4⟩
  · exact .inl h1
  · exact .inr ⟨g, cap, cur, e1, e2, o.rows _ _ _ _ e3 he, e4⟩
theorem own_blk {B : Nat} {w : World} {e : TypeId} {sz : Nat} {p : Option Addr} {n c : Nat} {cs : List Value} (h : Own w B e sz p n c cs) : ∀ b, (Value.slice p n c).ownBlock = some b → B ≤ b ∧ ∃ cs' fr, w.heap[b]? = some (.cells cs' e fr) := by
  intro b hb
  rcases h.cases with ⟨rfl, _⟩ | ⟨g, cur, rfl, h1, _, h2, _⟩
  · cases hb
  · have e : some g = some b := hb
    obtain rfl := Option.some.inj e
    exact ⟨h1, _, _, h2⟩

set_option maxRecDepth 100000 in
set_option maxHeartbeats 1000000 in
theorem put_i {B : Nat} {w : World} {c t p : Nat} {m : Xm} {n : Nat} {jv : Value} {root : Int} {M : Pm} (hC : CAt w c t jv) (hT : TAt w t p root) (h : Pv B w p m M) (hB : B ≤ w.heap.size) (hL : S.Lds w) {l : Bool} {kp : Option Addr} {nk kc : Nat} {vp : Option Addr} {nv vc : Nat} {ip : Option Addr} {ni ic : Nat} {x : Nd} (hx : NV w l kp nk kc vp nv vc ip ni ic x) (g : N.Good x) (hs : x.put.length ≤ 237) (hf : frst M m = some n) :
    Calls Tryz.prog 147 #[.pointer (some ⟨c, 0, none⟩), .agg #[.bool l, .slice kp nk kc, .slice vp nv vc, .slice ip ni ic]] w fun e w' => ∃ pp pc, e = .returned (.tuple #[.slice pp 1 pc, .slice none 0 0, .int .i64 0]) ∧ Own w' w.heap.size 3 1 pp 1 pc (icl [(n : Int)]) ∧ Pv B w' p m (pt M n x) ∧ G.On B w w' := by
  obtain ⟨i3, hi3, hz30, hz31, hz32⟩ := info_parts N.info3
  obtain ⟨i9, hi9, hz90, hz91, hz92⟩ := info_parts N.info9
  have K0 : Kept w (w.alloc (.cells #[.bool l, .slice kp nk kc, .slice vp nv vc, .slice ip ni ic] 121)) := (Kept.refl w).alloc _
  have X0 := C4.alloc w 121 (.bool l) (.slice kp nk kc) (.slice vp nv vc) (.slice ip ni ic)
  obtain ⟨x0, x1, x2, x3⟩ := X0.cs
  have HC : Hid (CAt w c t jv) := hC
  have HT : Hid (TAt w t p root) := hT
  have HV : Hid (Pv B w p m M) := h
  have HL : Hid (S.Lds w) := hL
  have HF : Hid (frst M m = some n) := hf
  have HP := N.part_small (hx.kept K0) g hs
  have HGd : Hid (N.Good x) := g
  have HS : Hid (x.put.length ≤ 237) := hs
  clear hC hT h hL hf g hs hx
  go_enter Tryz.func147, Tryz.ntmps147
  go_wp2_with (go_at_call 182; (with_reducible refine HP.mono ?_); rintro e w1 ⟨gp, kp', kc', vp', nv', vc', ip', ni', ic', rfl, C1, N1, k1⟩; have K1 := K0.trans k1; have k2 : Kept w1 (w1.alloc (.cells #[.bool l, .slice kp' nk kc', .slice vp' nv' vc', .slice ip' ni' ic'] 121)) := (Kept.refl w1).alloc _; have K2 := K1.trans k2; have X2 := C4.alloc w1 121 (.bool l) (.slice kp' nk kc') (.slice vp' nv' vc') (.slice ip' ni' ic'); have HA := add_some (HC.out.kept K2) (HT.out.kept K2) (HV.out.kept K2) (Nat.le_trans hB K2.size) (lds_kept HL.out K2) (N1.kept k2) HGd.out HS.out HF.out; obtain ⟨y0, y1, y2, y3⟩ := C1.cs; obtain ⟨z0, z1, z2, z3⟩ := X2.cs; clear HP)
  refine wp_loop_rounds 2 ?_
  rw [rounds_succ]
  go_wp2_with (first
    | (go_at_call 151; (with_reducible refine HA.mono ?_); rintro e w3 ⟨rfl, h3, o3⟩; have ob : w.heap.size ≤ w3.heap.size := Nat.le_trans K2.size o3.size)
    | (at_builtin; refine wpList_append_own _ rfl _ _ 94 rfl w.heap.size 3 i3 _ 1 8 Tryz.underlying94 hi3 hz30 hz31 hz32 rfl (by decide) (.slice none 0 0) 0 (icl []) rfl (own_nil _ _ _ _).out ⟨w3.heap.size, 0, none⟩ 1 1 [.int .i64 (n : Nat)] rfl rfl (one_cell w3 _ 3) (by intro u hu; simp at hu; subst hu; rfl) (by decide) (by decide) (Nat.le_trans ob ((Kept.refl w3).alloc _).size) ?_; intro v' w4 o4 g4 _; obtain ⟨pp, pc, rfl⟩ := owns_shape o4; have k34 : Kept w3 w4 := N.grown_kept (B := w3.heap.size) w3 ((Kept.refl w3).alloc _) g4 (Nat.le_refl _) (fun k e => by cases e); have O4 : Hid (Own w4 w.heap.size 3 1 pp 1 pc (icl [(n : Int)])) := ⟨o4⟩; clear o4 g4))
  rw [rounds_succ]
  go_wp2
  go_ret3
  exact ⟨_, _, rfl, O4.out, h3.kept k34, ((G.On.ofKept ⟨K2.out⟩ hB).trans o3).kept ⟨k34.out⟩ hB⟩
set_option maxRecDepth 100000 in
set_option maxHeartbeats 1000000 in
theorem put_o {B : Nat} {w : World} {c t p : Nat} {m : Xm} {jv : Value} {root : Int} {M : Pm} (hC : CAt w c t jv) (hT : TAt w t p root) (h : Pv B w p m M) (hB : B ≤ w.heap.size) (hL : S.Lds w) {l : Bool} {kp : Option Addr} {nk kc : Nat} {vp : Option Addr} {nv vc : Nat} {ip : Option Addr} {ni ic : Nat} {x : Nd} (hx : NV w l kp nk kc vp nv vc ip ni ic x) (g : N.Good x) (hs : x.put.length ≤ 237) (hf : frst M m = none) :
    Calls Tryz.prog 147 #[.pointer (some ⟨c, 0, none⟩), .agg #[.bool l, .slice kp nk kc, .slice vp nv vc, .slice ip ni ic]] w fun e w' => e = .returned (.tuple #[.slice none 0 0, .slice none 0 0, .int .i64 80]) ∧ Kept w w' := by
  obtain ⟨i3, hi3, hz30, hz31, hz32⟩ := info_parts N.info3
  obtain ⟨i9, hi9, hz90, hz91, hz92⟩ := info_parts N.info9
  have K0 : Kept w (w.alloc (.cells #[.bool l, .slice kp nk kc, .slice vp nv vc, .slice ip ni ic] 121)) := (Kept.refl w).alloc _
  have X0 := C4.alloc w 121 (.bool l) (.slice kp nk kc) (.slice vp nv vc) (.slice ip ni ic)
  obtain ⟨x0, x1, x2, x3⟩ := X0.cs
  have HC : Hid (CAt w c t jv) := hC
  have HT : Hid (TAt w t p root) := hT
  have HV : Hid (Pv B w p m M) := h
  have HL : Hid (S.Lds w) := hL
  have HF : Hid (frst M m = none) := hf
  have HP := N.part_small (hx.kept K0) g hs
  have HGd : Hid (N.Good x) := g
  have HS : Hid (x.put.length ≤ 237) := hs
  clear hC hT h hL hf g hs hx
  go_enter Tryz.func147, Tryz.ntmps147
  go_wp2_with (go_at_call 182; (with_reducible refine HP.mono ?_); rintro e w1 ⟨gp, kp', kc', vp', nv', vc', ip', ni', ic', rfl, C1, N1, k1⟩; have K1 := K0.trans k1; have k2 : Kept w1 (w1.alloc (.cells #[.bool l, .slice kp' nk kc', .slice vp' nv' vc', .slice ip' ni' ic'] 121)) := (Kept.refl w1).alloc _; have K2 := K1.trans k2; have X2 := C4.alloc w1 121 (.bool l) (.slice kp' nk kc') (.slice vp' nv' vc') (.slice ip' ni' ic'); have HA := add_none (HC.out.kept K2) (HT.out.kept K2) (HV.out.kept K2) (Nat.le_trans hB K2.size) (lds_kept HL.out K2) (N1.kept k2) HGd.out HS.out HF.out; obtain ⟨y0, y1, y2, y3⟩ := C1.cs; obtain ⟨z0, z1, z2, z3⟩ := X2.cs; clear HP)
  refine wp_loop_rounds 2 ?_
  rw [rounds_succ]
  go_wp2_with (go_at_call 151; (with_reducible refine HA.mono ?_); rintro e w3 ⟨rfl, k3⟩)
  go_ret3
  exact ⟨rfl, K2.trans k3⟩
open N (C3)

def Pgt (t : TypeId) : Prop := t = 66 ∨ t = 60 ∨ t = 145 ∨ t = 106 ∨ t = 161 ∨ t = 53
structure Aq (S : Nat) (w w' : World) : Prop where
  cells : ∀ (k : Nat) (cs : Array Value) (t : TypeId) (fr : Nat × Nat), w.heap[k]? = some (.cells cs t fr) → Pgt t → w'.heap[k]? = some (.cells cs t fr)
  maps : ∀ (k : Nat) (es : Array MapEntry) (c : Nat), k < S → w.heap[k]? = some (.map es c) → w'.heap[k]? = some (.map es c)
theorem Aq.ofKept {S : Nat} {w w' : World} (k : Kept w w') : Aq S w w' := ⟨fun _ _ _ _ h _ => k.block h, fun _ _ _ _ h => k.block h⟩
theorem Aq.grown {S : Nat} {w w' : World} {r : Option Nat} (hg : w.grownBy w' r) (hr : ∀ b, r = some b → ∃ cs t fr, w.heap[b]? = some (.cells cs t fr) ∧ ¬ Pgt t) : Aq S w w' := by
  refine ⟨fun k cs t fr h hp => (hg.block k (Array.getElem?_eq_some_iff.1 h).1 (fun e => ?_)).trans h, fun k es c _ h => (hg.block k (Array.getElem?_eq_some_iff.1 h).1 (fun e => ?_)).trans h⟩
  · obtain ⟨cs', t', fr', hb, hn⟩ := hr k e.symm
    rw [h] at hb
    injection hb with hb
    injection hb with _ e2 _
    exact hn (e2 ▸ hp)
  · obtain ⟨cs', t', fr', hb, hn⟩ := hr k e.symm
    rw [h] at hb
    injection hb with hb
    cases hb
theorem Aq.one {S b : Nat} {w w' : World} (o : G.One b w w') {es : Array MapEntry} {c : Nat} (hb : w.heap[b]? = some (.map es c)) (hS : S ≤ b) : Aq S w w' :=
  ⟨fun k cs t fr h _ => (o.block k (G.map_ne h hb)).trans h, fun k es' c' hk h => (o.block k (by omega)).trans h⟩

structure Fr (B S : Nat) (w w' : World) : Prop where
  on : G.On B w w'
  maps : ∀ (k : Nat) (es : Array MapEntry) (c : Nat), S ≤ k → w.heap[k]? = some (.map es c) → w'.heap[k]? = some (.map es c)
theorem Fr.trans {B S : Nat} {a b c : World} (h : Fr B S a b) (k : Fr B S b c) : Fr B S a c := ⟨h.on.trans k.on, fun x es q hx hm => k.maps x es q hx (h.maps x es q hx hm)⟩
theorem Fr.grown {B S : Nat} {w W W' : World} {r : Option Nat} (h : Fr B S w W) (hg : W.grownBy W' r) (hr : ∀ b, r = some b → w.heap.size ≤ b) (hB : B ≤ w.heap.size) : Fr B S w W' := by
  have key : ∀ {k : Nat} {o o' : Obj}, w.heap[k]? = some o → W.heap[k]? = some o' → W'.heap[k]? = some o' := fun {k o o'} h1 h2 => (hg.block k (Array.getElem?_eq_some_iff.1 h2).1 (fun e => by
    have := hr k e.symm
    have := (Array.getElem?_eq_some_iff.1 h1).1
    omega)).trans h2
  exact ⟨⟨h.on.below.grown hg (Nat.le_trans hB h.on.size) (fun k e => Nat.le_trans hB (hr k e)), fun b cs t fr hb hc => key hb (h.on.rows b cs t fr hb hc)⟩, fun k es c hk hm => key hm (h.maps k es c hk hm)⟩

structure Ct (B S : Nat) (I : World → Prop) (w w' : World) : Prop where
  i : I w'
  f : Fr B S w w'
theorem Ct.size {B S : Nat} {I : World → Prop} {w w' : World} (h : Ct B S I w w') : w.heap.size ≤ w'.heap.size := h.f.on.size
theorem Ct.trans {B S : Nat} {I : World → Prop} {a b c : World} (h : Ct B S I a b) (k : Ct B S I b c) : Ct B S I a c := ⟨k.i, h.f.trans k.f⟩
structure Stay (S : Nat) (I : World → Prop) : Prop where
  out : ∀ W W', I W → Aq S W W' → I W'
theorem Ct.grown {B S : Nat} {I : World → Prop} {w W W' : World} {r : Option Nat} (R : Stay S I) (h : Ct B S I w W) (hB : B ≤ w.heap.size) (hg : W.grownBy W' r) (hr : ∀ b, r = some b → w.heap.size ≤ b ∧ ∃ cs t fr, W.heap[b]? = some (.cells cs t fr) ∧ ¬ Pgt t) : Ct B S I w W' :=
  ⟨R.out _ _ h.i (Aq.grown hg (fun b e => (hr b e).2)), h.f.grown hg (fun b e => (hr b e).1) hB⟩
theorem Ct.start {B S : Nat} {I : World → Prop} {w : World} (hi : I w) : Ct B S I w w := ⟨hi, ⟨G.On.refl _ _, fun _ _ _ _ h => h⟩⟩
theorem Ct.kept {B S : Nat} {I : World → Prop} {w W W' : World} (R : Stay S I) (h : Ct B S I w W) (hB : B ≤ w.heap.size) (k : Kept W W') : Ct B S I w W' :=
  h.grown R hB (k.grown none) (fun b e => by cases e)
theorem Ct.one {B S b : Nat} {I : World → Prop} {w W W' : World} (R : Stay S I) (h : Ct B S I w W) (hB : B ≤ w.heap.size) (o : G.One b W W') {es : Array MapEntry} {c : Nat} (hb : W.heap[b]? = some (.map es c)) (hS : S ≤ b) (hw : w.heap.size ≤ b) : Ct B S I w W' := by
  refine ⟨R.out _ _ h.i (Aq.one o hb hS), ⟨⟨h.f.on.below.trans (o.below B (by omega)), fun k cs t fr hk hc => ?_⟩, fun k es' c' hk hm => ?_⟩⟩
  · have h1 := h.f.on.rows k cs t fr hk hc
    exact (o.block k (G.map_ne h1 hb)).trans h1
  · have h1 := (Array.getElem?_eq_some_iff.1 hm).1
    exact (o.block k (by omega)).trans (h.f.maps k es' c' hk hm)

theorem g4_grown (w : World) (b : Nat) (v0 v1 v2 v3 : Value) : w.grownBy ((((w.setCell ⟨b, 0, none⟩ v0).setCell ⟨b, 1, none⟩ v1).setCell ⟨b, 2, none⟩ v2).setCell ⟨b, 3, none⟩ v3) (some b) :=
  ⟨rfl, rfl, rfl, by simp, fun k _ hk => N.others4 w (fun e => hk (by rw [e])) v0 v1 v2 v3⟩
theorem g3_grown (w : World) (b : Nat) (v0 v1 v2 : Value) : w.grownBy (((w.setCell ⟨b, 0, none⟩ v0).setCell ⟨b, 1, none⟩ v1).setCell ⟨b, 2, none⟩ v2) (some b) := by
  refine ⟨rfl, rfl, rfl, by simp, fun k _ hk => ?_⟩
  have h : k ≠ b := fun e => hk (by rw [e])
  rw [heap_setCell_other _ ⟨b, 2, none⟩ k _ h, heap_setCell_other _ ⟨b, 1, none⟩ k _ h, heap_setCell_other _ ⟨b, 0, none⟩ k _ h]
theorem c4_cal {B : Nat} {w w' : World} {b : Nat} {t : TypeId} {a0 a1 a2 a3 : Value} (k : C4 w b t a0 a1 a2 a3) (o : G.On B w w') (ht : G.Calm t) : C4 w' b t a0 a1 a2 a3 := ⟨o.rows _ _ _ _ k.out ht⟩
theorem c3_cal {B : Nat} {w w' : World} {b : Nat} {t : TypeId} {a0 a1 a2 : Value} (k : C3 w b t a0 a1 a2) (o : G.On B w w') (ht : G.Calm t) : C3 w' b t a0 a1 a2 := ⟨o.rows _ _ _ _ k.out ht⟩

structure Rdr (B S p : Nat) (I : World → Prop) (M : Pm) : Prop where
  stay : Stay S I
  read : ∀ (W : World) (kb n : Nat) (fr : Nat × Nat) (y : Nd), I W → B ≤ W.heap.size → M n = some y → W.heap[kb]? = some (.cells #[.int .i64 2, .int .i64 3] 3 fr) →
    Calls Tryz.prog 131 #[.pointer (some ⟨p, 0, none⟩), .int .i64 (n : Nat), .slice (some ⟨kb, 0, none⟩) 2 2] W fun e w' => (∃ xg : Nat, e = .returned (.tuple #[.agg #[.int .i64 (kindOf y), .int .i64 (n : Nat), .int .u64 (xg : Nat), .string (N.bs y.put)], .int .i64 0])) ∧ Ct B S I W w'

set_option maxRecDepth 100000 in
set_option maxHeartbeats 2000000 in
theorem node_by {B S : Nat} {I : World → Prop} {w : World} {t p n : Nat} {root : Int} {M : Pm} (R : Rdr B S p I M) (hT : TAt w t p root) (hI : I w) (hB : B ≤ w.heap.size) {y : Nd} (hy : M n = some y) (g : N.Good y) (hu : Up y.ks) (l : Bool) (hl : y.leaf = l) :
    Calls Tryz.prog 94 #[.pointer (some ⟨t, 0, none⟩), .int .i64 (n : Nat)] w fun e w' => ∃ kp nk kc vp nv vc ip ni ic, e = .returned (.tuple #[.agg #[.bool l, .slice kp nk kc, .slice vp nv vc, .slice ip ni ic], .int .i64 0]) ∧ NV w' l kp nk kc vp nv vc ip ni ic y ∧ Ct B S I w w' ∧ Nw w.heap.size ip := by
  have HN : Hid (∀ W, Kept w W → Calls Tryz.prog 57 #[.pointer (some ⟨t, 0, none⟩)] W fun e w' => e = .returned (.bool false) ∧ w' = W) := fun W k => none_walk (hT.kept k)
  have HR : Hid (∀ W kb fr, Kept w W → W.heap[kb]? = some (.cells #[.int .i64 2, .int .i64 3] 3 fr) → Calls Tryz.prog 131 #[.pointer (some ⟨p, 0, none⟩), .int .i64 (n : Nat), .slice (some ⟨kb, 0, none⟩) 2 2] W fun e w' => (∃ xg : Nat, e = .returned (.tuple #[.agg #[.int .i64 (kindOf y), .int .i64 (n : Nat), .int .u64 (xg : Nat), .string (N.bs y.put)], .int .i64 0])) ∧ Ct B S I W w') := fun W kb fr k hk => R.read W kb n fr y (R.stay.out _ _ hI (Aq.ofKept k)) (Nat.le_trans hB k.size) hy hk
  have HG : Hid (∀ W, Calls Tryz.prog 132 #[.string (N.bs y.put), .bool l] W fun e w' => ∃ kp nk kc vp nv vc ip ni ic, e = .returned (.tuple #[.agg #[.bool l, .slice kp nk kc, .slice vp nv vc, .slice ip ni ic], .int .i64 0]) ∧ NV w' l kp nk kc vp nv vc ip ni ic y ∧ Kept W w' ∧ Nw W.heap.size ip) := fun W => N.get_walk g g.few hu l hl
  have hkd : kindOf y = if l = true then 2 else 3 := by unfold kindOf; rw [hl]
  rw [hkd] at HR
  have K0 : Kept w (w.alloc (.cells #[.bool false, .slice none 0 0, .slice none 0 0, .slice none 0 0] 121)) := (Kept.refl w).alloc _
  have R0 := C4.alloc w 121 (.bool false) (.slice none 0 0) (.slice none 0 0) (.slice none 0 0)
  have S0 := N.size_alloc w (.cells #[.bool false, .slice none 0 0, .slice none 0 0, .slice none 0 0] 121)
  obtain ⟨c0, c1⟩ := (hT.kept K0).cs
  generalize N.bs y.put = sx at *
  have KB : Kept w ((w.alloc (.cells #[.bool false, .slice none 0 0, .slice none 0 0, .slice none 0 0] 121)).alloc (.cells #[.int .i64 2, .int .i64 3] 3)) := K0.alloc _
  have hb : ((w.alloc (.cells #[.bool false, .slice none 0 0, .slice none 0 0, .slice none 0 0] 121)).alloc (.cells #[.int .i64 2, .int .i64 3] 3)).heap[(w.alloc (.cells #[.bool false, .slice none 0 0, .slice none 0 0, .slice none 0 0] 121)).heap.size]? = some (.cells #[.int .i64 2, .int .i64 3] 3 (0, 0)) := heap_alloc_new _ _
  rw [S0] at hb
  have RB : C4 ((w.alloc (.cells #[.bool false, .slice none 0 0, .slice none 0 0, .slice none 0 0] 121)).alloc (.cells #[.int .i64 2, .int .i64 3] 3)) w.heap.size 121 (.bool false) (.slice none 0 0) (.slice none 0 0) (.slice none 0 0) := R0.kept ((Kept.refl _).alloc _)
  have HCB : Hid (Ct B S I w ((w.alloc (.cells #[.bool false, .slice none 0 0, .slice none 0 0, .slice none 0 0] 121)).alloc (.cells #[.int .i64 2, .int .i64 3] 3))) := (Ct.start hI).kept R.stay hB KB
  have HB : Hid (B ≤ w.heap.size) := hB
  have HR0 : Hid (Stay S I) := R.stay
  clear hkd hl hu g hy hI hT R hB
  cases l with
  | true =>
    simp only [if_true] at HR
    go_enter Tryz.func94, Tryz.ntmps94
    go_wp2_with (first
      | (go_at_call 57; (with_reducible refine (HN.out _ K0).mono ?_); rintro e w1 ⟨rfl, hw1⟩; rw [hw1]; clear hw1)
      | (go_at_call 131; (with_reducible refine (HR.out _ _ _ KB hb).mono ?_); rintro e w2 ⟨⟨xg, rfl⟩, k2⟩; have K2 := HCB.out.trans k2; have R2 := c4_cal RB k2.f.on calm121; have P2 := P.Pg.alloc w2 2 (n : Nat) xg sx 157; have K3 : Kept w2 (w2.alloc (.cells #[.int .i64 2, .int .i64 (n : Nat), .int .u64 (xg : Nat), .string sx] 157)) := (Kept.refl _).alloc _; have R3 := R2.kept K3; obtain ⟨y0, y1, y2, y3⟩ := P2.cs; have K30 := K2.kept HR0.out HB.out K3)
      | (go_at_call 132; (with_reducible refine (HG.out _).mono ?_); rintro e v4 ⟨kp, nk, kc, vp, nv, vc, ip, ni, ic, rfl, N4, k4, nw4⟩; have nw5 : Hid (Nw w.heap.size ip) := nw4.mono K30.size; clear nw4; have K4 := K30.kept HR0.out HB.out k4; have R4 := R3.kept k4; have k5 := (Kept.refl v4).alloc (.cells #[.bool true, .slice kp nk kc, .slice vp nv vc, .slice ip ni ic] 121); have N5 := N4.kept k5; have R5 := R4.kept k5; have X5 := C4.alloc v4 121 (.bool true) (.slice kp nk kc) (.slice vp nv vc) (.slice ip ni ic); have K5 := K4.kept HR0.out HB.out k5; obtain ⟨x0, x1, x2, x3⟩ := X5.cs; obtain ⟨⟨g0, f0⟩, ⟨g1, f1⟩, ⟨g2, f2⟩, ⟨g3, f3⟩, hfin⟩ := N.ready4 R5.out (.bool true) (.slice kp nk kc) (.slice vp nv vc) (.slice ip ni ic)))
    have q1 := N5.other R5 (fun k hk => N.others4 _ hk (.bool true) (.slice kp nk kc) (.slice vp nv vc) (.slice ip ni ic))
    have q2 := K5.grown HR0.out HB.out (g4_grown _ w.heap.size (.bool true) (.slice kp nk kc) (.slice vp nv vc) (.slice ip ni ic)) (fun b e => by injection e with e; subst e; exact ⟨Nat.le_refl _, _, _, _, R5.out, by unfold Pgt; decide⟩)
    generalize ((((World.setCell _ ⟨w.heap.size, 0, none⟩ (.bool true)).setCell ⟨w.heap.size, 1, none⟩ (.slice kp nk kc)).setCell ⟨w.heap.size, 2, none⟩ (.slice vp nv vc)).setCell ⟨w.heap.size, 3, none⟩ (.slice ip ni ic)) = WF at hfin q1 q2 ⊢
    refine bodyPost_ret (v := .tuple #[.agg #[.bool true, .slice kp nk kc, .slice vp nv vc, .slice ip ni ic], .int .i64 0]) ?_ rfl ⟨_, _, _, _, _, _, _, _, _, rfl, q1, q2, nw5.out⟩
    exact N.results_two (p := 4) (u := 5) (ty := 121) rfl _ _ w.heap.size 121 #[.bool true, .slice kp nk kc, .slice vp nv vc, .slice ip ni ic] (0, 0) _ rfl hfin Tryz.underlying121 rfl N.size121
  | false =>
    simp only [Bool.false_eq_true, if_false] at HR
    go_enter Tryz.func94, Tryz.ntmps94
    go_wp2_with (first
      | (go_at_call 57; (with_reducible refine (HN.out _ K0).mono ?_); rintro e w1 ⟨rfl, hw1⟩; rw [hw1]; clear hw1)
      | (go_at_call 131; (with_reducible refine (HR.out _ _ _ KB hb).mono ?_); rintro e w2 ⟨⟨xg, rfl⟩, k2⟩; have K2 := HCB.out.trans k2; have R2 := c4_cal RB k2.f.on calm121; have P2 := P.Pg.alloc w2 3 (n : Nat) xg sx 157; have K3 : Kept w2 (w2.alloc (.cells #[.int .i64 3, .int .i64 (n : Nat), .int .u64 (xg : Nat), .string sx] 157)) := (Kept.refl _).alloc _; have R3 := R2.kept K3; obtain ⟨y0, y1, y2, y3⟩ := P2.cs; have K30 := K2.kept HR0.out HB.out K3)
      | (go_at_call 132; (with_reducible refine (HG.out _).mono ?_); rintro e v4 ⟨kp, nk, kc, vp, nv, vc, ip, ni, ic, rfl, N4, k4, nw4⟩; have nw5 : Hid (Nw w.heap.size ip) := nw4.mono K30.size; clear nw4; have K4 := K30.kept HR0.out HB.out k4; have R4 := R3.kept k4; have k5 := (Kept.refl v4).alloc (.cells #[.bool false, .slice kp nk kc, .slice vp nv vc, .slice ip ni ic] 121); have N5 := N4.kept k5; have R5 := R4.kept k5; have X5 := C4.alloc v4 121 (.bool false) (.slice kp nk kc) (.slice vp nv vc) (.slice ip ni ic); have K5 := K4.kept HR0.out HB.out k5; obtain ⟨x0, x1, x2, x3⟩ := X5.cs; obtain ⟨⟨g0, f0⟩, ⟨g1, f1⟩, ⟨g2, f2⟩, ⟨g3, f3⟩, hfin⟩ := N.ready4 R5.out (.bool false) (.slice kp nk kc) (.slice vp nv vc) (.slice ip ni ic)))
    have q1 := N5.other R5 (fun k hk => N.others4 _ hk (.bool false) (.slice kp nk kc) (.slice vp nv vc) (.slice ip ni ic))
    have q2 := K5.grown HR0.out HB.out (g4_grown _ w.heap.size (.bool false) (.slice kp nk kc) (.slice vp nv vc) (.slice ip ni ic)) (fun b e => by injection e with e; subst e; exact ⟨Nat.le_refl _, _, _, _, R5.out, by unfold Pgt; decide⟩)
    generalize ((((World.setCell _ ⟨w.heap.size, 0, none⟩ (.bool false)).setCell ⟨w.heap.size, 1, none⟩ (.slice kp nk kc)).setCell ⟨w.heap.size, 2, none⟩ (.slice vp nv vc)).setCell ⟨w.heap.size, 3, none⟩ (.slice ip ni ic)) = WF at hfin q1 q2 ⊢
    refine bodyPost_ret (v := .tuple #[.agg #[.bool false, .slice kp nk kc, .slice vp nv vc, .slice ip ni ic], .int .i64 0]) ?_ rfl ⟨_, _, _, _, _, _, _, _, _, rfl, q1, q2, nw5.out⟩
    exact N.results_two (p := 4) (u := 5) (ty := 121) rfl _ _ w.heap.size 121 #[.bool false, .slice kp nk kc, .slice vp nv vc, .slice ip ni ic] (0, 0) _ rfl hfin Tryz.underlying121 rfl N.size121

theorem crown_err {w : World} {c : Nat} {l : Bool} {kp : Option Addr} {nk kc : Nat} {vp : Option Addr} {nv vc : Nat} {ip : Option Addr} {ni ic : Nat} {Q : World → Prop} (hn : 0 < nk)
    (f : Calls Tryz.prog 147 #[.pointer (some ⟨c, 0, none⟩), .agg #[.bool l, .slice kp nk kc, .slice vp nv vc, .slice ip ni ic]] (w.alloc (.cells #[.bool l, .slice kp nk kc, .slice vp nv vc, .slice ip ni ic] 121)) fun e w' => e = .returned (.tuple #[.slice none 0 0, .slice none 0 0, .int .i64 80]) ∧ Q w') :
    Calls Tryz.prog 118 #[.pointer (some ⟨c, 0, none⟩), .agg #[.bool l, .slice kp nk kc, .slice vp nv vc, .slice ip ni ic]] w fun e w' => e = .returned (.tuple #[.int .i64 0, .int .i64 80]) ∧ Q w' := by
  have X0 := C4.alloc w 121 (.bool l) (.slice kp nk kc) (.slice vp nv vc) (.slice ip ni ic)
  obtain ⟨x0, x1, x2, x3⟩ := X0.cs
  have h0 : ¬ nk = 0 := by omega
  go_enter Tryz.func118, Tryz.ntmps118
  go_wp2_with (go_at_call 147; (with_reducible refine f.mono ?_); rintro e w1 ⟨rfl, q1⟩)
  go_ret2
  exact ⟨rfl, q1⟩
theorem crown_one {w : World} {c B n : Nat} {l : Bool} {kp : Option Addr} {nk kc : Nat} {vp : Option Addr} {nv vc : Nat} {ip : Option Addr} {ni ic : Nat} {Q : World → Prop} (hn : 0 < nk)
    (f : Calls Tryz.prog 147 #[.pointer (some ⟨c, 0, none⟩), .agg #[.bool l, .slice kp nk kc, .slice vp nv vc, .slice ip ni ic]] (w.alloc (.cells #[.bool l, .slice kp nk kc, .slice vp nv vc, .slice ip ni ic] 121)) fun e w' => ∃ pp pc, e = .returned (.tuple #[.slice pp 1 pc, .slice none 0 0, .int .i64 0]) ∧ Own w' B 3 1 pp 1 pc (icl [(n : Int)]) ∧ Q w') :
    Calls Tryz.prog 118 #[.pointer (some ⟨c, 0, none⟩), .agg #[.bool l, .slice kp nk kc, .slice vp nv vc, .slice ip ni ic]] w fun e w' => e = .returned (.tuple #[.int .i64 (n : Nat), .int .i64 0]) ∧ Q w' := by
  have X0 := C4.alloc w 121 (.bool l) (.slice kp nk kc) (.slice vp nv vc) (.slice ip ni ic)
  obtain ⟨x0, x1, x2, x3⟩ := X0.cs
  have h0 : ¬ nk = 0 := by omega
  go_enter Tryz.func118, Tryz.ntmps118
  go_wp2_with (go_at_call 147; (with_reducible refine f.mono ?_); rintro e w1 ⟨pp, pc, rfl, o1, q1⟩; obtain ⟨g, rfl⟩ := o1.some_of (by decide); have y0 := o1.cell (j := 0) (u := .int .i64 (n : Nat)) rfl)
  go_ret2
  exact ⟨rfl, q1⟩
open B (Stp plc)

structure Sm where
  page : Nat
  kid : Nat
  l : Bool
  kp : Option Addr
  nk : Nat
  kc : Nat
  vp : Option Addr
  nv : Nat
  vc : Nat
  ip : Option Addr
  ni : Nat
  ic : Nat
  x : Nd
def Sm.stp (s : Sm) : Stp := ⟨s.page, s.x, s.kid⟩
def Sm.cells (s : Sm) : List Value := [.int .i64 (s.page : Nat), .bool s.l, .slice s.kp s.nk s.kc, .slice s.vp s.nv s.vc, .slice s.ip s.ni s.ic, .int .i64 (s.kid : Nat)]
def Sm.ok (w : World) (s : Sm) : Prop := NV w s.l s.kp s.nk s.kc s.vp s.nv s.vc s.ip s.ni s.ic s.x
def scl (L : List Sm) : List Value := L.flatMap Sm.cells
theorem scl_snoc (L : List Sm) (s : Sm) : scl (L ++ [s]) = scl L ++ s.cells := by simp [scl]
theorem scl_at : ∀ (L : List Sm) (k : Nat) (s : Sm), L[k]? = some s → ∀ j, j < 6 → (scl L)[k * 6 + j]? = s.cells[j]?
  | [], _, _, h, _, _ => by simp at h
  | a :: r, 0, s, h, j, hj => by
    simp at h; subst h
    have : scl (a :: r) = a.cells ++ scl r := by simp [scl]
    rw [this, Nat.zero_mul, Nat.zero_add, List.getElem?_append_left (by simp [Sm.cells]; omega)]
  | a :: r, k + 1, s, h, j, hj => by
    have : scl (a :: r) = a.cells ++ scl r := by simp [scl]
    have hl : a.cells.length = 6 := rfl
    rw [this, List.getElem?_append_right (by rw [hl]; omega), hl, ← scl_at r k s (by simpa using h) j hj]
    congr 1; omega

theorem ready6 {W : World} {b : Nat} {c0 c1 c2 c3 c4 c5 : Value} {t : TypeId} (h0 : W.heap[b]? = some (.cells #[c0, c1, c2, c3, c4, c5] t)) (v0 v1 v2 v3 v4 v5 : Value) :
    (W.cell? ⟨b, 0, none⟩ = some c0 ∧ W.frozen? ⟨b, 0, none⟩ = false) ∧
    ((W.setCell ⟨b, 0, none⟩ v0).cell? ⟨b, 1, none⟩ = some c1 ∧ (W.setCell ⟨b, 0, none⟩ v0).frozen? ⟨b, 1, none⟩ = false) ∧
    (((W.setCell ⟨b, 0, none⟩ v0).setCell ⟨b, 1, none⟩ v1).cell? ⟨b, 2, none⟩ = some c2 ∧ ((W.setCell ⟨b, 0, none⟩ v0).setCell ⟨b, 1, none⟩ v1).frozen? ⟨b, 2, none⟩ = false) ∧
    ((((W.setCell ⟨b, 0, none⟩ v0).setCell ⟨b, 1, none⟩ v1).setCell ⟨b, 2, none⟩ v2).cell? ⟨b, 3, none⟩ = some c3 ∧ (((W.setCell ⟨b, 0, none⟩ v0).setCell ⟨b, 1, none⟩ v1).setCell ⟨b, 2, none⟩ v2).frozen? ⟨b, 3, none⟩ = false) ∧
    (((((W.setCell ⟨b, 0, none⟩ v0).setCell ⟨b, 1, none⟩ v1).setCell ⟨b, 2, none⟩ v2).setCell ⟨b, 3, none⟩ v3).cell? ⟨b, 4, none⟩ = some c4 ∧ ((((W.setCell ⟨b, 0, none⟩ v0).setCell ⟨b, 1, none⟩ v1).setCell ⟨b, 2, none⟩ v2).setCell ⟨b, 3, none⟩ v3).frozen? ⟨b, 4, none⟩ = false) ∧
    ((((((W.setCell ⟨b, 0, none⟩ v0).setCell ⟨b, 1, none⟩ v1).setCell ⟨b, 2, none⟩ v2).setCell ⟨b, 3, none⟩ v3).setCell ⟨b, 4, none⟩ v4).cell? ⟨b, 5, none⟩ = some c5 ∧ (((((W.setCell ⟨b, 0, none⟩ v0).setCell ⟨b, 1, none⟩ v1).setCell ⟨b, 2, none⟩ v2).setCell ⟨b, 3, none⟩ v3).setCell ⟨b, 4, none⟩ v4).frozen? ⟨b, 5, none⟩ = false) ∧
    ((((((W.setCell ⟨b, 0, none⟩ v0).setCell ⟨b, 1, none⟩ v1).setCell ⟨b, 2, none⟩ v2).setCell ⟨b, 3, none⟩ v3).setCell ⟨b, 4, none⟩ v4).setCell ⟨b, 5, none⟩ v5).heap[b]? = some (.cells #[v0, v1, v2, v3, v4, v5] t) := by
  have h1 : (W.setCell ⟨b, 0, none⟩ v0).heap[b]? = some (.cells #[v0, c1, c2, c3, c4, c5] t) := by rw [heap_setCell_same _ b 0 _ _ _ h0]; rfl
  have h2 : ((W.setCell ⟨b, 0, none⟩ v0).setCell ⟨b, 1, none⟩ v1).heap[b]? = some (.cells #[v0, v1, c2, c3, c4, c5] t) := by rw [heap_setCell_same _ b 1 _ _ _ h1]; rfl
  have h3 : (((W.setCell ⟨b, 0, none⟩ v0).setCell ⟨b, 1, none⟩ v1).setCell ⟨b, 2, none⟩ v2).heap[b]? = some (.cells #[v0, v1, v2, c3, c4, c5] t) := by rw [heap_setCell_same _ b 2 _ _ _ h2]; rfl
  have h4 : ((((W.setCell ⟨b, 0, none⟩ v0).setCell ⟨b, 1, none⟩ v1).setCell ⟨b, 2, none⟩ v2).setCell ⟨b, 3, none⟩ v3).heap[b]? = some (.cells #[v0, v1, v2, v3, c4, c5] t) := by rw [heap_setCell_same _ b 3 _ _ _ h3]; rfl
  have h5 : (((((W.setCell ⟨b, 0, none⟩ v0).setCell ⟨b, 1, none⟩ v1).setCell ⟨b, 2, none⟩ v2).setCell ⟨b, 3, none⟩ v3).setCell ⟨b, 4, none⟩ v4).heap[b]? = some (.cells #[v0, v1, v2, v3, v4, c5] t) := by rw [heap_setCell_same _ b 4 _ _ _ h4]; rfl
  have h6 : ((((((W.setCell ⟨b, 0, none⟩ v0).setCell ⟨b, 1, none⟩ v1).setCell ⟨b, 2, none⟩ v2).setCell ⟨b, 3, none⟩ v3).setCell ⟨b, 4, none⟩ v4).setCell ⟨b, 5, none⟩ v5).heap[b]? = some (.cells #[v0, v1, v2, v3, v4, v5] t) := by rw [heap_setCell_same _ b 5 _ _ _ h5]; rfl
  exact ⟨⟨by rw [cell_of_row _ b 0 _ _ _ h0]; rfl, frozen_of_row _ b 0 _ _ h0⟩, ⟨by rw [cell_of_row _ b 1 _ _ _ h1]; rfl, frozen_of_row _ b 1 _ _ h1⟩, ⟨by rw [cell_of_row _ b 2 _ _ _ h2]; rfl, frozen_of_row _ b 2 _ _ h2⟩, ⟨by rw [cell_of_row _ b 3 _ _ _ h3]; rfl, frozen_of_row _ b 3 _ _ h3⟩, ⟨by rw [cell_of_row _ b 4 _ _ _ h4]; rfl, frozen_of_row _ b 4 _ _ h4⟩, ⟨by rw [cell_of_row _ b 5 _ _ _ h5]; rfl, frozen_of_row _ b 5 _ _ h5⟩, h6⟩

theorem cells6 {W : World} {b : Nat} {c0 c1 c2 c3 c4 c5 : Value} {t : TypeId} (h : W.heap[b]? = some (.cells #[c0, c1, c2, c3, c4, c5] t)) :
    W.cell? ⟨b, 0, none⟩ = some c0 ∧ W.cell? ⟨b, 1, none⟩ = some c1 ∧ W.cell? ⟨b, 2, none⟩ = some c2 ∧ W.cell? ⟨b, 3, none⟩ = some c3 ∧ W.cell? ⟨b, 4, none⟩ = some c4 ∧ W.cell? ⟨b, 5, none⟩ = some c5 :=
  ⟨by rw [cell_of_row _ b 0 _ _ _ h]; rfl, by rw [cell_of_row _ b 1 _ _ _ h]; rfl, by rw [cell_of_row _ b 2 _ _ _ h]; rfl, by rw [cell_of_row _ b 3 _ _ _ h]; rfl, by rw [cell_of_row _ b 4 _ _ _ h]; rfl, by rw [cell_of_row _ b 5 _ _ _ h]; rfl⟩

structure WAt (w : World) (p : Option Addr) (n c : Nat) (L : List Sm) : Prop where
  row : Rw w 6 p n c (scl L)
  rx : Rx w 170 p c
  ok : ∀ s ∈ L, s.ok w
theorem WAt.kept {w w' : World} {p : Option Addr} {n c : Nat} {L : List Sm} (h : WAt w p n c L) (k : Kept w w') : WAt w' p n c L := ⟨k.rw h.row, h.rx.kept k, fun s hs => NV.kept (h.ok s hs) k⟩
theorem WAt.on {B : Nat} {w w' : World} {p : Option Addr} {n c : Nat} {L : List Sm} (h : WAt w p n c L) (o : G.On B w w') : WAt w' p n c L := ⟨rw_on o calm170 h.row h.rx, rx_on o calm170 h.rx, fun s hs => nv_on o (h.ok s hs)⟩
structure Wy (M : Pm) (key : ByteArray) (P : List Stp) : Prop where
  nod : ∀ (k : Nat) (s : Stp), P[k]? = some s → M s.page = some s.x ∧ N.Good s.x ∧ Up s.x.ks ∧ s.kid = plc s.x key ∧ s.x.leaf = decide (k + 1 = P.length)
  nxt : ∀ (k : Nat) (s s' : Stp), P[k]? = some s → P[k + 1]? = some s' → s.x.is[s.kid]? = some (s'.page : Int)
  few : P.length ≤ 1000

theorem six_cell (w : World) (a0 a1 a2 a3 a4 a5 : Value) (t : TypeId) : ∀ j u, [a0, a1, a2, a3, a4, a5][j]? = some u → (w.alloc (.cells #[a0, a1, a2, a3, a4, a5] t)).cell? ((⟨w.heap.size, 0, none⟩ : Addr).add j) = some u := by
  intro j u hj
  rw [Addr.add_lit, Nat.zero_add, cell_of_row _ _ _ _ _ _ (heap_alloc_new w (.cells #[a0, a1, a2, a3, a4, a5] t))]
  simpa using hj
theorem info170 : (Tryz.prog.info? 170).map (fun i => (i.zero, i.size, i.bytes)) = some (some (.agg #[.int .i64 0, .bool false, .slice none 0 0, .slice none 0 0, .slice none 0 0, .int .i64 0]), 6, 96) := by kernel_rfl

theorem rx_grown {w w' : World} {r : Option Nat} (hg : w.grownBy w' r) (hr : ∀ b, r = some b → ∃ cs fr, w.heap[b]? = some (.cells cs 170 fr)) {e : TypeId} (he : e ≠ 170) {p : Option Addr} {c : Nat} (h : Rx w e p c) : Rx w' e p c := by
  refine ⟨fun b off ph hp => ?_, h.nil⟩
  obtain ⟨cs, fr, hb⟩ := h.typ b off ph hp
  refine ⟨cs, fr, (hg.block b (Array.getElem?_eq_some_iff.1 hb).1 (fun e2 => ?_)).trans hb⟩
  obtain ⟨cs', fr', hb'⟩ := hr b e2.symm
  rw [hb] at hb'
  injection hb' with hb'
  injection hb' with _ e3 _
  exact he e3
theorem rw_grown {w w' : World} {r : Option Nat} (hg : w.grownBy w' r) (hr : ∀ b, r = some b → ∃ cs fr, w.heap[b]? = some (.cells cs 170 fr)) {e : TypeId} (he : e ≠ 170) {sz : Nat} {p : Option Addr} {n c : Nat} {cs : List Value} (h : Rw w sz p n c cs) (hx : Rx w e p c) : Rw w' sz p n c cs := by
  refine ⟨h.len, h.le, h.cap, ?_⟩
  rcases h.out with h0 | ⟨b, off, rfl, f⟩
  · exact .inl h0
  · refine .inr ⟨b, off, rfl, fun j u hu => ?_⟩
    obtain ⟨cs', fr, hb⟩ := hx.typ b off none rfl
    rw [← f j u hu]
    refine World.cell?_of_block (hg.block b (Array.getElem?_eq_some_iff.1 hb).1 (fun e2 => ?_))
    obtain ⟨cs2, fr2, hb'⟩ := hr b e2.symm
    rw [hb] at hb'
    injection hb' with hb'
    injection hb' with _ e3 _
    exact he e3
theorem nv_grown {w w' : World} {r : Option Nat} (hg : w.grownBy w' r) (hr : ∀ b, r = some b → ∃ cs fr, w.heap[b]? = some (.cells cs 170 fr)) {l : Bool} {kp : Option Addr} {nk kc : Nat} {vp : Option Addr} {nv vc : Nat} {ip : Option Addr} {ni ic : Nat} {x : Nd} (h : NV w l kp nk kc vp nv vc ip ni ic x) : NV w' l kp nk kc vp nv vc ip ni ic x :=
  ⟨h.hl, rw_grown hg hr (by decide) h.k h.kx, rw_grown hg hr (by decide) h.v h.vx, rw_grown hg hr (by decide) h.i h.ix, rx_grown hg hr (by decide) h.kx, rx_grown hg hr (by decide) h.vx, rx_grown hg hr (by decide) h.ix⟩
theorem blk_stays {W w' : World} {q : Option Addr} {k c : Nat} (hg : W.grownBy w' (Value.slice q k c).ownBlock) {bs : Nat} {o : Obj} (hb : W.heap[bs]? = some o) (hne : ∀ b, (Value.slice q k c).ownBlock = some b → b ≠ bs) : w'.heap[bs]? = some o :=
  (hg.block bs (Array.getElem?_eq_some_iff.1 hb).1 (fun e => hne bs e.symm rfl)).trans hb
theorem nv_kid {w : World} {l : Bool} {kp : Option Addr} {nk kc : Nat} {vp : Option Addr} {nv vc : Nat} {ib io ni ic : Nat} {x : Nd} (h : NV w l kp nk kc vp nv vc (some ⟨ib, io, none⟩) ni ic x) {j : Nat} {q : Int} (hq : x.is[j]? = some q) : w.cell? ⟨ib, io + j, none⟩ = some (.int .i64 q) := by
  rcases h.i.out with ⟨h0, _⟩ | ⟨b, off, e, f⟩
  · cases h0
  · injection e with e
    injection e with e1 e2 _
    subst e1; subst e2
    exact f j _ (N.icl_at hq)


theorem way_nil {w : World} {t p : Nat} {key : ByteArray} (hT : TAt w t p (-1)) : Calls Tryz.prog 62 #[.pointer (some ⟨t, 0, none⟩), .string key] w fun e w' => e = .returned (.tuple #[.slice none 0 0, .int .i64 0]) ∧ w' = w := by
  obtain ⟨c0, c1⟩ := hT.cs
  go_enter Tryz.func62, Tryz.ntmps62
  go_wp2
  refine wp_loop_rounds 1 ?_
  rw [rounds_succ]
  go_wp2
  go_ret2
  exact ⟨rfl, rfl⟩
theorem end_nil (w : World) : Calls Tryz.prog 63 #[.slice none 0 0] w fun e w' => e = .returned (.agg #[.bool true, .slice none 0 0, .slice none 0 0, .slice none 0 0]) ∧ Kept w w' := by
  have K0 : Kept w (w.alloc (.cells #[.bool true, .slice none 0 0, .slice none 0 0, .slice none 0 0] 121)) := (Kept.refl w).alloc _
  have R0 := C4.alloc w 121 (.bool true) (.slice none 0 0) (.slice none 0 0) (.slice none 0 0)
  go_enter Tryz.func63, Tryz.ntmps63
  go_wp2
  refine bodyPost_ret (v := .agg #[.bool true, .slice none 0 0, .slice none 0 0, .slice none 0 0]) ?_ rfl ⟨rfl, K0⟩
  exact G.results_one (p := 2) (ty := 121) rfl _ _ w.heap.size 121 #[.bool true, .slice none 0 0, .slice none 0 0, .slice none 0 0] (0, 0) _ rfl R0.out Tryz.underlying121 rfl N.size121
open B (Ext WfN us)

set_option maxRecDepth 100000 in
set_option maxHeartbeats 1000000 in
theorem end_walk {w : World} {q : Option Addr} {n k c : Nat} {L : List Sm} (h : WAt w q n c L) (hk : k ≤ 1000) (hn : n = k + 1) {s : Sm} (hs : L[k]? = some s) :
    Calls Tryz.prog 63 #[.slice q n c] w fun e w' => e = .returned (.agg #[.bool s.l, .slice s.kp s.nk s.kc, .slice s.vp s.nv s.vc, .slice s.ip s.ni s.ic]) ∧ Kept w w' := by
  obtain ⟨b, off, rfl, f⟩ := h.row.some (by omega)
  have K0 : Kept w (w.alloc (.cells #[.bool false, .slice none 0 0, .slice none 0 0, .slice none 0 0] 121)) := (Kept.refl w).alloc _
  have a1 : (w.alloc (.cells #[.bool false, .slice none 0 0, .slice none 0 0, .slice none 0 0] 121)).cell? ⟨b, off + k * 6 + 1, none⟩ = some (.bool s.l) := K0.cell (f (k * 6 + 1) _ (by rw [scl_at L k s hs 1 (by decide)]; rfl))
  have a2 : (w.alloc (.cells #[.bool false, .slice none 0 0, .slice none 0 0, .slice none 0 0] 121)).cell? ⟨b, off + k * 6 + 1 + 1, none⟩ = some (.slice s.kp s.nk s.kc) := K0.cell (f (k * 6 + 2) _ (by rw [scl_at L k s hs 2 (by decide)]; rfl))
  have a3 : (w.alloc (.cells #[.bool false, .slice none 0 0, .slice none 0 0, .slice none 0 0] 121)).cell? ⟨b, off + k * 6 + 1 + 2, none⟩ = some (.slice s.vp s.nv s.vc) := K0.cell (f (k * 6 + 3) _ (by rw [scl_at L k s hs 3 (by decide)]; rfl))
  have a4 : (w.alloc (.cells #[.bool false, .slice none 0 0, .slice none 0 0, .slice none 0 0] 121)).cell? ⟨b, off + k * 6 + 1 + 3, none⟩ = some (.slice s.ip s.ni s.ic) := K0.cell (f (k * 6 + 4) _ (by rw [scl_at L k s hs 4 (by decide)]; rfl))
  obtain ⟨sp, sk, sl, skp, snk, skc, svp, snv, svc, sip, sni, sic, sx⟩ := s
  dsimp only at a1 a2 a3 a4 ⊢
  have e1 : IntKind.i64.wrap ((n : Int) - 1) = (k : Int) := by rw [IntKind.wrap_i64]; omega
  have hn0 : ¬ n = 0 := by omega
  have hkn : (k : Int) < (n : Int) := by omega
  clear f h hs hn
  go_enter Tryz.func63, Tryz.ntmps63
  go_wp2
  refine bodyPost_ret (v := .agg #[.bool sl, .slice skp snk skc, .slice svp snv svc, .slice sip sni sic]) ?_ rfl ⟨rfl, (Kept.refl w).alloc _⟩
  exact G.results_one (p := 2) (ty := 121) rfl _ _ w.heap.size 121 #[.bool sl, .slice skp snk skc, .slice svp snv svc, .slice sip sni sic] (0, 0) _ rfl (heap_alloc_new w _) Tryz.underlying121 rfl N.size121

def PE (M : Pm) (m : Xm) (y : Nd) (M' : Pm) : Prop :=
  (y.put.length ≤ 237 ∧ frst M m = none ∧ M' = M) ∨
  (237 < y.put.length ∧ ∃ mm key, N.Mid y 0 mm ∧ y.ks[mm]? = some key ∧ ((frst M m = none ∧ M' = M) ∨ ∃ n1, frst M m = some n1 ∧ frst (pt M n1 (y.fst mm)) m = none ∧ M' = pt M n1 (y.fst mm)))
theorem PE.ext {M M' : Pm} {m : Xm} {y : Nd} (h : PE M m y M') : Ext M M' := by
  rcases h with ⟨_, _, rfl⟩ | ⟨_, mm, key, _, _, ⟨_, rfl⟩ | ⟨n1, h1, _, rfl⟩⟩
  · exact B.Ext.refl _
  · exact B.Ext.refl _
  · exact B.pt_ext (frst_some h1).2.2.1
open N (NZ blk)

structure Jx (c : Nat) (j : Option Nat) (w w' : World) : Prop where
  zero : Below 0 w w'
  block : ∀ (b : Nat) (o : Obj), w.heap[b]? = some o → b ≠ c → j ≠ some b → w'.heap[b]? = some o
theorem Jx.ofKept {c : Nat} {j : Option Nat} {w w' : World} (k : Kept w w') : Jx c j w w' := ⟨k.out.mono (Nat.zero_le _), fun _ _ h _ _ => k.block h⟩
theorem Jx.size {c : Nat} {j : Option Nat} {w w' : World} (h : Jx c j w w') : w.heap.size ≤ w'.heap.size := h.zero.size
theorem Jx.trans {c : Nat} {j : Option Nat} {a b d : World} (h : Jx c j a b) (k : Jx c j b d) : Jx c j a d := ⟨h.zero.trans k.zero, fun x o hx h1 h2 => k.block x o (h.block x o hx h1 h2) h1 h2⟩
theorem Jx.kept {c : Nat} {j : Option Nat} {a b d : World} (h : Jx c j a b) (k : Kept b d) : Jx c j a d := h.trans (Jx.ofKept k)
theorem Jx.grown {c : Nat} {j : Option Nat} {w W W' : World} (h : Jx c j w W) {r : Option Nat} (hg : W.grownBy W' r) (hr : ∀ k, r = some k → j = some k ∨ w.heap.size ≤ k) : Jx c j w W' := by
  refine ⟨h.zero.trans ⟨hg.os, hg.tape, hg.output, hg.size, fun _ h => absurd h (Nat.not_lt_zero _)⟩, fun b o hb h1 h2 => ?_⟩
  have hb2 := h.block b o hb h1 h2
  refine (hg.block b (Array.getElem?_eq_some_iff.1 hb2).1 (fun e => ?_)).trans hb2
  rcases hr b e.symm with h3 | h3
  · exact h2 h3
  · have := (Array.getElem?_eq_some_iff.1 hb).1; omega
structure Jt (w : World) (c : Nat) (j : Option Nat) : Prop where
  c : ∃ cs fr, w.heap[c]? = some (.cells cs 196 fr)
  j : ∀ b, j = some b → ∃ cs fr, w.heap[b]? = some (.cells cs 3 fr)
theorem Jx.cells {c : Nat} {j : Option Nat} {w w' : World} (h : Jx c j w w') (ht : Jt w c j) {b : Nat} {cs : Array Value} {t : TypeId} {fr : Nat × Nat} (hb : w.heap[b]? = some (.cells cs t fr)) (h1 : t ≠ 196) (h2 : t ≠ 3) : w'.heap[b]? = some (.cells cs t fr) := by
  refine h.block b _ hb ?_ ?_
  · rintro rfl
    obtain ⟨cs', fr', e⟩ := ht.c
    rw [hb] at e; injection e with e; injection e with _ e _; exact h1 e
  · intro e
    obtain ⟨cs', fr', e⟩ := ht.j b e
    rw [hb] at e; injection e with e; injection e with _ e _; exact h2 e
def Apt (c : Nat) (j : Option Nat) (p : Option Addr) : Prop := ∀ b off ph, p = some ⟨b, off, ph⟩ → b ≠ c ∧ j ≠ some b

theorem own_same {w w' : World} {B : Nat} {e : TypeId} {sz : Nat} {p : Option Addr} {n cap : Nat} {cs : List Value} (h : Own w B e sz p n cap cs) {b : Nat} {cc : Array Value} {t : TypeId} {fr : Nat × Nat} (hb : w.heap[b]? = some (.cells cc t fr)) (ht : t ≠ e) (ho : ∀ k, k ≠ b → w'.heap[k]? = w.heap[k]?) : Own w' B e sz p n cap cs := by
  refine ⟨h.out.1, ?_⟩
  rcases h.out.2 with h1 | ⟨g, cp, cur, e1, e2, e3, e4⟩
  · exact .inl h1
  · refine .inr ⟨g, cp, cur, e1, e2, ?_, e4⟩
    rw [ho g (fun e => ?_)]
    · exact e3
    · subst e; rw [e3] at hb; injection hb with hb; injection hb with _ hb _; exact ht hb.symm

structure Lx (B c : Nat) (j : Option Nat) (w w' : World) : Prop where
  below : Below B w w'
  rows : ∀ (b : Nat) (cs : Array Value) (t : TypeId) (fr : Nat × Nat), w.heap[b]? = some (.cells cs t fr) → G.Calm t → b ≠ c → j ≠ some b → w'.heap[b]? = some (.cells cs t fr)
theorem Lx.ofKept {B c : Nat} {j : Option Nat} {w w' : World} (k : Kept w w') (hB : B ≤ w.heap.size) : Lx B c j w w' := ⟨k.out.mono hB, fun _ _ _ _ h _ _ _ => k.block h⟩
theorem Lx.size {B c : Nat} {j : Option Nat} {w w' : World} (h : Lx B c j w w') : w.heap.size ≤ w'.heap.size := h.below.size
theorem Lx.trans {B c : Nat} {j : Option Nat} {a b d : World} (h : Lx B c j a b) (k : Lx B c j b d) : Lx B c j a d := ⟨h.below.trans k.below, fun x cs t fr hx ht h1 h2 => k.rows x cs t fr (h.rows x cs t fr hx ht h1 h2) ht h1 h2⟩
theorem Lx.on {B c : Nat} {j : Option Nat} {a b d : World} (h : Lx B c j a b) (k : G.On B b d) : Lx B c j a d := ⟨h.below.trans k.below, fun x cs t fr hx ht h1 h2 => k.rows x cs t fr (h.rows x cs t fr hx ht h1 h2) ht⟩
theorem Lx.kept {B c : Nat} {j : Option Nat} {a b d : World} (h : Lx B c j a b) (k : Kept b d) (hB : B ≤ a.heap.size) : Lx B c j a d := h.trans (Lx.ofKept k (Nat.le_trans hB h.size))
open B (us_pt abv Lv Pf Mk En upd pre post fm)

def ints (l : List Nat) : List Int := l.map fun n : Nat => (n : Int)
structure Er (m : Xm) (M M' : Pm) (k : Nat) : Prop where
  ext : Ext M M'
  out : ∃ added : List Nat, added.length ≤ k ∧ ∀ q, us M' q = us M q + added.count q
  full : ∀ j, 2 ≤ j → j < m.n → tkn m M' j = true
theorem Er.mono {m : Xm} {M M' : Pm} {k k' : Nat} (h : Er m M M' k) (hk : k ≤ k') : Er m M M' k' := ⟨h.ext, by obtain ⟨a, b, c⟩ := h.out; exact ⟨a, Nat.le_trans b hk, c⟩, h.full⟩
open B (fmN pgN Tr Tree con pt_ext)

def COk (B p : Nat) (m : Xm) (M' : Pm) (root : Int) (W : World) (e : Ending) (w' : World) : Prop := e = .returned (.tuple #[.int .i64 root, .int .i64 0]) ∧ Pv B w' p m M' ∧ G.On B W w'
def CErr (B p : Nat) (m : Xm) (M' : Pm) (W : World) (e : Ending) (w' : World) : Prop := e = .returned (.tuple #[.int .i64 0, .int .i64 80]) ∧ Pv B w' p m M' ∧ G.On B W w'

open B (path path_length path_pf path_next cA cC)

structure Tx (B t : Nat) (w w' : World) : Prop where
  below : Below B w w'
  rows : ∀ (b : Nat) (cs : Array Value) (ty : TypeId) (fr : Nat × Nat), w.heap[b]? = some (.cells cs ty fr) → G.Calm ty → b ≠ t → w'.heap[b]? = some (.cells cs ty fr)
theorem Tx.ofOn {B t : Nat} {w w' : World} (h : G.On B w w') : Tx B t w w' := ⟨h.below, fun b cs ty fr hb hc _ => h.rows b cs ty fr hb hc⟩
theorem Tx.trans {B t : Nat} {a b c : World} (h : Tx B t a b) (k : Tx B t b c) : Tx B t a c := ⟨h.below.trans k.below, fun x cs ty fr hx hc hn => k.rows x cs ty fr (h.rows x cs ty fr hx hc hn) hc hn⟩
theorem Tx.size {B t : Nat} {w w' : World} (h : Tx B t w w') : w.heap.size ≤ w'.heap.size := h.below.size

def RPost (kx B t p : Nat) (m : Xm) (root : Int) (M0 : Pm) (l : List En) (w : World) (e : Ending) (w' : World) : Prop :=
  (e = .returned (.int .i64 0) ∧ ∃ M' r, Tree M' r l ∧ TAt w' t p r ∧ Pv B w' p m M' ∧ Tx B t w w') ∨ (e = .returned (.int .i64 80) ∧ ∃ M', Er m M0 M' kx ∧ TAt w' t p root ∧ Pv B w' p m M' ∧ Tx B t w w')

open B (path_zero)

structure Lc (B K c t p : Nat) (m : Xm) (M' : Pm) (jb : Option Nat) (z : Nd) (J' : List Nat) (W : World) (tv ev : Value) (wx : World) : Prop where
  out : ∃ bs kp nk kc vp nv vc ip ni ic jp' nj' jc', tv = .pointer (some ⟨bs, 0, none⟩) ∧ ev = .int .i64 0 ∧ C4 wx bs 121 (.bool false) (.slice kp nk kc) (.slice vp nv vc) (.slice ip ni ic) ∧ W.heap.size ≤ bs ∧ NV wx false kp nk kc vp nv vc ip ni ic z ∧ CAt wx c t (.slice jp' nj' jc') ∧ Own wx K 3 1 jp' nj' jc' (icl (ints J')) ∧ Apt c (blk jp') ip ∧ Pv B wx p m M' ∧ Lx B c jb W wx
open B (stpAt nodeAt_some fm_some fmN_leaf con_leaf leafm pg_some Wf pt_same R got path_got)

theorem crown_new {B : Nat} {w : World} {c t p : Nat} {m : Xm} {jv : Value} {root : Int} {M : Pm} (hC : CAt w c t jv) (hT : TAt w t p root) (hV : Pv B w p m M) (hM : ∀ q, M q = none) (hB : B ≤ w.heap.size) (hL : S.Lds w)
    {l : Bool} {kp : Option Addr} {nk kc : Nat} {vp : Option Addr} {nv vc : Nat} {ip : Option Addr} {ni ic : Nat} {y : Nd} (hy : NV w l kp nk kc vp nv vc ip ni ic y) {key : ByteArray} {v : Vl} (hyd : y = ⟨true, [key], [v], []⟩) (gy : N.Good y) (hs : y.put.length ≤ 237) :
    (∃ M' r, Tree M' r [(key, v)] ∧ Calls Tryz.prog 118 #[.pointer (some ⟨c, 0, none⟩), .agg #[.bool l, .slice kp nk kc, .slice vp nv vc, .slice ip ni ic]] w (COk B p m M' r w)) ∨
    (Er m M M 0 ∧ Calls Tryz.prog 118 #[.pointer (some ⟨c, 0, none⟩), .agg #[.bool l, .slice kp nk kc, .slice vp nv vc, .slice ip ni ic]] w (CErr B p m M w)) := by
  have K0 : Kept w (w.alloc (.cells #[.bool l, .slice kp nk kc, .slice vp nv vc, .slice ip ni ic] 121)) := (Kept.refl w).alloc _
  have hB1 : B ≤ (w.alloc (.cells #[.bool l, .slice kp nk kc, .slice vp nv vc, .slice ip ni ic] 121)).heap.size := Nat.le_trans hB K0.size
  have oK : G.On B w (w.alloc (.cells #[.bool l, .slice kp nk kc, .slice vp nv vc, .slice ip ni ic] 121)) := G.On.ofKept ⟨K0.out⟩ hB
  have hpos : 0 < nk := by have := hy.nk; rw [hyd] at this; simp at this; omega
  cases hf : frst M m with
  | none =>
    refine .inr ⟨⟨Ext.refl _, ⟨[], by simp, fun q => by simp⟩, frst_none hf⟩, (crown_err (Q := fun w' => Pv B w' p m M ∧ G.On B w w') hpos ((put_o (hC.kept K0) (hT.kept K0) (hV.kept K0) hB1 (lds_kept hL K0) (hy.kept K0) gy hs hf).mono ?_)).mono ?_⟩
    · rintro e w' ⟨rfl, k⟩
      exact ⟨rfl, (hV.kept K0).kept k, oK.kept ⟨k.out⟩ hB⟩
    · rintro e w' ⟨rfl, a, b⟩
      exact ⟨rfl, a, b⟩
  | some n =>
    refine .inl ⟨pt M n y, (n : Nat), .inr ⟨0, n, rfl, ⟨⟨y, pt_same _ _ _, by rw [hyd]; simp, hs, by rw [hyd], gy⟩, ?_, ?_⟩, ?_⟩, ?_⟩
    · rw [fm_some (pt_same _ _ _), fmN_leaf, hyd]; simp [leafm]
    · intro q
      rw [pg_some (pt_same _ _ _), us_pt (hM n)]
      simp [pgN, us, hM q]
    · rw [fm_some (pt_same _ _ _), fmN_leaf, con_leaf, hyd]; rfl
    · refine (crown_one (n := n) (B := (w.alloc (.cells #[.bool l, .slice kp nk kc, .slice vp nv vc, .slice ip ni ic] 121)).heap.size) (Q := fun w' => Pv B w' p m (pt M n y) ∧ G.On B w w') hpos ((put_i (hC.kept K0) (hT.kept K0) (hV.kept K0) hB1 (lds_kept hL K0) (hy.kept K0) gy hs hf).mono ?_)).mono ?_
      · rintro e w' ⟨pp, pc, rfl, a1, a3, a4⟩
        exact ⟨pp, pc, rfl, a1, a3, oK.trans a4⟩
      · rintro e w' ⟨rfl, a, b⟩
        exact ⟨rfl, a, b⟩

set_option maxRecDepth 100000 in
set_option maxHeartbeats 1000000 in
theorem replace_nil {B : Nat} {w : World} {t p : Nat} {m : Xm} {M0 : Pm} (hT : TAt w t p (-1)) (hBt : B ≤ t) (hV : Pv B w p m M0) (hM : ∀ q, M0 q = none) (hB : B ≤ w.heap.size) (hL : S.Lds w)
    {l : Bool} {kp : Option Addr} {nk kc : Nat} {vp : Option Addr} {nv vc : Nat} {ip : Option Addr} {ni ic : Nat} {y : Nd} (hy : NV w l kp nk kc vp nv vc ip ni ic y) {key : ByteArray} {v : Vl} (hyd : y = ⟨true, [key], [v], []⟩) (gy : N.Good y) (hs : y.put.length ≤ 237) :
    Calls Tryz.prog 86 #[.pointer (some ⟨t, 0, none⟩), .slice none 0 0, .agg #[.bool l, .slice kp nk kc, .slice vp nv vc, .slice ip ni ic]] w (RPost 0 B t p m (-1) M0 [(key, v)] w) := by
  obtain ⟨W0, hW0⟩ : ∃ W0, W0 = (w.alloc (.cells #[.bool l, .slice kp nk kc, .slice vp nv vc, .slice ip ni ic] 121)).alloc (.cells #[.pointer (some ⟨t, 0, none⟩), .slice none 0 0] 196) := ⟨_, rfl⟩
  have K0 : Kept w W0 := by rw [hW0]; exact ((Kept.refl w).alloc _).alloc _
  have C0 : CAt W0 (w.heap.size + 1) t (.slice none 0 0) := ⟨by rw [hW0]; exact D.two_new w _ _⟩
  have X0 : C4 W0 w.heap.size 121 (.bool l) (.slice kp nk kc) (.slice vp nv vc) (.slice ip ni ic) := C4.mk (by rw [hW0]; exact ((Kept.refl _).alloc _).block (heap_alloc_new w _))
  have o0 : G.On B w W0 := G.On.ofKept ⟨K0.out⟩ hB
  have cd := crown_new C0 (hT.kept K0) (hV.kept K0) hM (Nat.le_trans hB K0.size) (lds_kept hL K0) (hy.kept K0) hyd gy hs
  obtain ⟨y0, y1, y2, y3⟩ := X0.cs
  have HT : Hid (TAt w t p (-1)) := hT
  have HC : Hid (CAt W0 (w.heap.size + 1) t (.slice none 0 0)) := C0
  have HO : Hid (G.On B w W0) := o0
  clear hV hM hB hL hy hyd gy hs K0 C0 X0 o0 hT
  rcases cd with ⟨M', rt, tr, f⟩ | ⟨er, f⟩
  · go_enter Tryz.func86, Tryz.ntmps86
    go_wp2
    rw [← hW0]
    clear hW0
    refine wp_loop_rounds 1 ?_
    rw [rounds_succ]
    go_wp2_with (go_at_call 118; (with_reducible refine f.mono ?_); rintro e w3 ⟨rfl, V3, o3⟩; obtain ⟨c0, c1⟩ := (HC.out.on o3).cs; have T3 := HT.out.on (HO.out.trans o3); have o4 := HO.out.trans o3; obtain ⟨t0, t1⟩ := T3.cs; have tf := frozen_of_row w3 t 1 _ _ T3.out)
    refine wp_loop_rounds 1 ?_
    rw [rounds_succ]
    go_wp2
    refine wp_loop_rounds 1 ?_
    rw [rounds_succ]
    have T6 : TAt (w3.setCell ⟨t, 1, none⟩ (.int .i64 rt)) t p rt := ⟨by rw [heap_setCell_same _ t 1 _ _ _ T3.out]; rfl⟩
    have o6 : Tx B t w (w3.setCell ⟨t, 1, none⟩ (.int .i64 rt)) := ⟨o4.below.setCell hBt _, fun b cs ty fr hb hc hne => by rw [heap_setCell_other w3 ⟨t, 1, none⟩ b _ hne]; exact o4.rows b cs ty fr hb hc⟩
    have V6 : Pv B (w3.setCell ⟨t, 1, none⟩ (.int .i64 rt)) p m M' := V3.ap (Ap.other T3.out (by decide) (fun k o hk hne => by rw [heap_setCell_other w3 ⟨t, 1, none⟩ k _ hne]; exact hk))
    clear V3 o3 T3 o4
    go_wp2
    go_ret
    exact .inl ⟨rfl, _, _, tr, T6, V6, o6⟩
  · go_enter Tryz.func86, Tryz.ntmps86
    go_wp2
    rw [← hW0]
    clear hW0
    refine wp_loop_rounds 1 ?_
    rw [rounds_succ]
    go_wp2_with (go_at_call 118; (with_reducible refine f.mono ?_); rintro e w3 ⟨rfl, V3, o3⟩; have o4 := HO.out.trans o3)
    go_ret
    exact .inr ⟨rfl, M0, er, HT.out.on o4, V3, Tx.ofOn o4⟩

theorem pf_of {M : Pm} {d n : Nat} (hw : Wf M d n) (ho : (fm M d n).Pairwise R) (key : ByteArray) : Pf M key d (stpAt M key n) [] [] := by
  obtain ⟨y, hy, a, b, c⟩ := hw
  have es : stpAt M key n = ⟨n, y, plc y key⟩ := by unfold stpAt; rw [nodeAt_some hy]
  rw [fm_some hy] at ho
  rw [es]
  exact ⟨hy, a, b, c, rfl, (fun a ha => by cases ha), (fun a ha => by cases ha), by simpa using ho⟩
theorem wy_of {M : Pm} {d n : Nat} {key : ByteArray} (hp : Pf M key d (stpAt M key n) [] []) (hd : d ≤ 900) : Wy M key (path M key d n) := by
  have hl := path_length M key d n
  refine ⟨fun k s hs => ?_, fun k s s' hs hs' => ?_, by omega⟩
  · obtain ⟨h1, h2⟩ := path_pf d n [] [] hp k s hs
    refine ⟨h2.mem, h2.wf.good, h2.up, h2.kid, ?_⟩
    rw [h2.wf.leaf, hl]
    congr 1
    simp only [eq_iff_iff]
    omega
  · obtain ⟨h1, h2⟩ := path_pf d n [] [] hp k s hs
    obtain ⟨c, hc, e⟩ := path_next d n [] [] hp k s s' hs hs'
    obtain ⟨q, hq, _⟩ := h2.wf.good.ik c (List.mem_of_getElem? hc)
    rw [hc, e, hq]; simp
def had (key : ByteArray) (l : List En) : Vl := (got key l).getD ⟨⟨#[]⟩, -1, 0⟩
open N (fnd isk oldV)

theorem results_ctt {P : Program} {fn : Func} {p u v : Tmp} {ty : TypeId} (h : fn.results = #[.cell p ty, .tmp u, .tmp v]) (tmps : Array Value) (w : World) (g : Nat) (t : TypeId) (cs : Array Value) (fr : Nat × Nat) (d : TypeDesc)
    (hp : tmps.getD p undef = .pointer (some ⟨g, 0, none⟩)) (hg : w.heap[g]? = some (.cells cs t fr)) (hu : P.underlying ty = some d) (hd : (match d with | .struct _ | .array _ _ => true | _ => false) = true) (hi : (P.info? ty).map (·.size) = some cs.size) :
    (results fn tmps).run P w = .ok (.tuple #[.agg cs, tmps.getD u undef, tmps.getD v undef]) w := by
  have hp' : tmps[p]?.getD undef = .pointer (some ⟨g, 0, none⟩) := by rw [← hp]; simp
  simp only [results, h]
  simp [Result.andThen, hp', asAddr, run_loadVar_row w g t ty cs fr d hg hu hd hi]
theorem size77 : (Tryz.prog.info? 77).map (·.size) = some 3 := by kernel_rfl

set_option maxRecDepth 100000 in
set_option maxHeartbeats 1000000 in
theorem get_nil {w : World} {t p : Nat} {key : ByteArray} (hT : TAt w t p (-1)) :
    Calls Tryz.prog 40 #[.pointer (some ⟨t, 0, none⟩), .string key] w fun e w' => e = .returned (.tuple #[.agg #[.string ⟨#[]⟩, .int .i64 (-1), .int .i64 0], .bool false, .int .i64 0]) ∧ Kept w w' := by
  have K0 : Kept w (w.alloc (.cells #[.string ⟨#[]⟩, .int .i64 0, .int .i64 0] 77)) := (Kept.refl w).alloc _
  have R0 := C3.alloc w 77 (.string ⟨#[]⟩) (.int .i64 0) (.int .i64 0)
  have f1 := none_walk (hT.kept K0)
  have f2 := way_nil (key := key) (hT.kept K0)
  have f3 := end_nil (w.alloc (.cells #[.string ⟨#[]⟩, .int .i64 0, .int .i64 0] 77))
  have f4 : Hid (∀ W : World, Calls Tryz.prog 64 #[.slice none 0 0, .string key] W fun e w' => e = .returned (.tuple #[.int .i64 0, .bool false]) ∧ w' = W) := fun W => by
    have := N.find_walk (w := W) (p := none) (n := 0) (c := 0) (ks := []) ⟨rfl, Nat.le_refl _, Nat.zero_le _, .inl ⟨rfl, rfl⟩⟩ (by omega) key
    exact this
  clear hT
  go_enter Tryz.func40, Tryz.ntmps40
  go_wp2_with (first
    | (go_at_call 57; (with_reducible refine f1.mono ?_); rintro e w1 ⟨rfl, hw1⟩; rw [hw1]; clear hw1 f1)
    | (go_at_call 62; (with_reducible refine f2.mono ?_); rintro e w1 ⟨rfl, hw1⟩; rw [hw1]; clear hw1 f2)
    | (go_at_call 63; (with_reducible refine f3.mono ?_); rintro e w1 ⟨rfl, k1⟩; have ka : Kept w1 (w1.alloc (.cells #[.bool true, .slice none 0 0, .slice none 0 0, .slice none 0 0] 121)) := (Kept.refl _).alloc _; have K2 := (K0.trans k1).trans ka; have R2 := (R0.kept k1).kept ka; obtain ⟨x0, x1, x2, x3⟩ := (C4.alloc w1 121 (.bool true) (.slice none 0 0) (.slice none 0 0) (.slice none 0 0)).cs; obtain ⟨⟨g0, i0⟩, ⟨g1, i1⟩, ⟨g2, i2⟩, hfin⟩ := N.ready3 R2.out (.string ⟨#[]⟩) (.int .i64 (-1)) (.int .i64 0))
    | (go_at_call 64; (with_reducible refine (f4.out _).mono ?_); rintro e w2 ⟨rfl, hw2⟩; rw [hw2]; clear hw2))
  have q2 := K2.st3 (b := w.heap.size) (Nat.le_refl _) (.string ⟨#[]⟩) (.int .i64 (-1)) (.int .i64 0)
  generalize (((World.setCell _ ⟨w.heap.size, 0, none⟩ (.string ⟨#[]⟩)).setCell ⟨w.heap.size, 1, none⟩ (.int .i64 (-1))).setCell ⟨w.heap.size, 2, none⟩ (.int .i64 0)) = WF at hfin q2 ⊢
  refine bodyPost_ret (v := .tuple #[.agg #[.string ⟨#[]⟩, .int .i64 (-1), .int .i64 0], .bool false, .int .i64 0]) ?_ rfl ⟨rfl, q2⟩
  exact results_ctt (p := 4) (u := 5) (v := 6) (ty := 77) rfl _ _ w.heap.size 77 #[.string ⟨#[]⟩, .int .i64 (-1), .int .i64 0] (0, 0) _ rfl hfin Tryz.underlying77 rfl size77

end Go.Proofs.YtifeihnhkbagpaaGreatDoor.T