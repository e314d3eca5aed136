/- Joined: TB TC TD TE TF TG. What is proved of the functions beneath BtreeNone. Conditions: those that each row names. -/
import Derived.Test.YtncfpjccfmolgaaGreatDoorZbc
import Derived.Test.YtncfpjccfmolgaaGreatDoorZbe
import Derived.Test.YtncfpjccfmolgaaGreatDoorZbf
import Derived.Deep.QuietTactic
import Derived.BigQuiet
import Derived.Deep.RegionHeld3
import Derived.Deep.DrawnRows
import Derived.LoopN
namespace Go.Proofs.YtncfpjccfmolgaaGreatDoor.T
open Go.ChangeShapes Go.WideShapes Go.ChangeAt Go.RowKit
open B (Pm pt)
open N (Nd NV Rw Rx Kept kcl vcl icl Vl C4)

/-- A tree in memory. -/
structure TAt (W : World) (t p : Nat) (root : Int) : Prop where
  out : W.heap[t]? = some (.cells #[.pointer (some ⟨p, 0, none⟩), .int .i64 root] 79)
theorem TAt.kept {W W' : World} {t p : Nat} {root : Int} (h : TAt W t p root) (k : Kept W W') : TAt W' t p root := ⟨(k.out.block t (Array.getElem?_eq_some_iff.1 h.out).1).trans h.out⟩
theorem TAt.cs {W : World} {t p : Nat} {root : Int} (h : TAt W t p root) : W.cell? ⟨t, 0, none⟩ = some (.pointer (some ⟨p, 0, none⟩)) ∧ W.cell? ⟨t, 1, none⟩ = some (.int .i64 root) := by
  refine ⟨?_, ?_⟩ <;> (rw [cell_of_row W t _ _ _ _ h.out]; rfl)
theorem calm79 : G.Calm 79 := by unfold G.Calm D.Calm; decide
theorem calm9 : G.Calm 9 := by unfold G.Calm D.Calm; decide
theorem calm33 : G.Calm 33 := by unfold G.Calm D.Calm; decide
theorem calm3 : G.Calm 3 := by unfold G.Calm D.Calm; decide
theorem calm52 : G.Calm 52 := by unfold G.Calm D.Calm; decide
theorem calm113 : G.Calm 113 := by unfold G.Calm D.Calm; decide
theorem calm119 : G.Calm 119 := by unfold G.Calm D.Calm; decide
theorem TAt.on {B : Nat} {W W' : World} {t p : Nat} {root : Int} (h : TAt W t p root) (o : G.On B W W') : TAt W' t p root := ⟨o.rows _ _ _ _ h.out calm79⟩

/-- Slices in blocks of calm types stay while the pager turns. -/
theorem rx_on {B : Nat} {w w' : World} (o : G.On B w w') {e : TypeId} (he : G.Calm e) {p : Option Addr} {c : Nat} (h : Rx w e p c) : Rx w' e p c :=
  ⟨(fun b off ph hp => by obtain ⟨cs, fr, hb⟩ := h.typ b off ph hp; exact ⟨cs, fr, o.rows _ _ _ _ hb he⟩), h.nil⟩
theorem rw_on {B : Nat} {w w' : World} (o : G.On B w w') {e : TypeId} (he : G.Calm e) {sz : Nat} {p : Option Addr} {n c : Nat} {cs : List Value} (h : Rw w sz p n c cs) (hx : Rx w e p c) : Rw w' sz p n c cs := by
  refine ⟨h.len, h.le, h.cap, ?_⟩
  rcases h.out with h0 | ⟨b, off, rfl, f⟩
  · exact .inl h0
  · refine .inr ⟨b, off, rfl, fun j u hu => ?_⟩
    obtain ⟨cs', fr, hb⟩ := hx.typ b off none rfl
    rw [← f j u hu]
    exact World.cell?_of_block ((o.rows _ _ _ _ hb he).trans hb.symm)
theorem nv_on {B : Nat} {w w' : World} (o : G.On B w w') {l : Bool} {kp : Option Addr} {nk kc : Nat} {vp : Option Addr} {nv vc : Nat} {ip : Option Addr} {ni ic : Nat} {x : Nd} (h : NV w l kp nk kc vp nv vc ip ni ic x) : NV w' l kp nk kc vp nv vc ip ni ic x :=
  ⟨h.hl, rw_on o calm9 h.k h.kx, rw_on o calm33 h.v h.vx, rw_on o calm3 h.i h.ix, rx_on o calm9 h.kx, rx_on o calm33 h.vx, rx_on o calm3 h.ix⟩

theorem none_nil (w : World) : Calls Tryz.prog 26 #[.pointer none] w fun e w' => e = .returned (.bool true) ∧ w' = w := by
  go_enter Tryz.func26, Tryz.ntmps26
  go_wp2
  go_ret
  exact ⟨rfl, rfl⟩
theorem none_walk {w : World} {t p : Nat} {root : Int} (h : TAt w t p root) : Calls Tryz.prog 26 #[.pointer (some ⟨t, 0, none⟩)] w fun e w' => e = .returned (.bool false) ∧ w' = w := by
  obtain ⟨c0, c1⟩ := h.cs
  go_enter Tryz.func26, Tryz.ntmps26
  go_wp2
  go_ret
  exact ⟨rfl, rfl⟩
theorem root_nil (w : World) : Calls Tryz.prog 17 #[.pointer none] w fun e w' => e = .returned (.int .i64 (-1)) ∧ w' = w := by
  have f := none_nil w
  go_enter Tryz.func17, Tryz.ntmps17
  go_wp2_with (go_at_call 26; (with_reducible refine f.mono ?_); rintro e w1 ⟨rfl, hw1⟩; rw [hw1]; clear hw1)
  go_ret
  exact ⟨rfl, rfl⟩
theorem root_walk {w : World} {t p : Nat} {root : Int} (h : TAt w t p root) : Calls Tryz.prog 17 #[.pointer (some ⟨t, 0, none⟩)] w fun e w' => e = .returned (.int .i64 root) ∧ w' = w := by
  obtain ⟨c0, c1⟩ := h.cs
  have f := none_walk h
  go_enter Tryz.func17, Tryz.ntmps17
  go_wp2_with (go_at_call 26; (with_reducible refine f.mono ?_); rintro e w1 ⟨rfl, hw1⟩; rw [hw1]; clear hw1)
  go_ret
  exact ⟨rfl, rfl⟩
theorem new_walk (w : World) (p : Nat) (root : Int) : Calls Tryz.prog 25 #[.pointer (some ⟨p, 0, none⟩), .int .i64 root] w fun e w' => e = .returned (.pointer (some ⟨w.heap.size, 0, none⟩)) ∧ TAt w' w.heap.size p root ∧ Kept w w' := by
  go_enter Tryz.func25, Tryz.ntmps25
  go_wp2
  go_ret
  exact ⟨rfl, ⟨heap_alloc_new w _⟩, (Kept.refl w).alloc _⟩
theorem mayKey_walk (w : World) (k : ByteArray) : Calls Tryz.prog 27 #[.string k] w fun e w' => e = .returned (.bool (decide (k.size ≤ 64))) ∧ w' = w := by
  go_enter Tryz.func27, Tryz.ntmps27
  go_wp2
  go_ret
  refine ⟨?_, rfl⟩
  congr 2
  simp
  omega
end Go.Proofs.YtncfpjccfmolgaaGreatDoor.T

namespace Go.Proofs.YtncfpjccfmolgaaGreatDoor.T
open Go.ChangeShapes Go.WideShapes Go.ChangeAt Go.RowKit
open B (Pm pt)
open N (Nd NV Rw Rx Kept kcl vcl icl Vl C4)

/-- The first free page. -/
def frst (M : Pm) (m : Nat) : Option Nat := (List.range m).find? fun n => decide (2 ≤ n) && (M n).isNone
theorem frst_none {M : Pm} {m : Nat} (h : frst M m = none) : ∀ k, 2 ≤ k → k < m → (M k).isSome = true := by
  intro k h1 h2
  have := List.find?_eq_none.1 h k (List.mem_range.2 h2)
  cases hm : M k with
  | none => rw [hm] at this; simp at this; omega
  | some x => rfl
theorem frst_some {M : Pm} {m n : Nat} (h : frst M m = some n) : 2 ≤ n ∧ n < m ∧ M n = none ∧ ∀ j, 2 ≤ j → j < n → (M j).isSome = true := by
  have h1 := List.find?_some h
  have h2 := List.mem_range.1 (List.mem_of_find?_eq_some h)
  simp at h1
  refine ⟨h1.1, h2, by simpa using h1.2, fun j a b => ?_⟩
  obtain ⟨i, hi, e1, e2⟩ := List.find?_eq_some_iff_getElem.1 h |>.2
  simp at e1
  subst e1
  have := e2 j b
  simp at this
  cases hm : M j with
  | none => rw [hm] at this; simp at this; omega
  | some x => rfl
theorem Pv.add_some {B : Nat} {w : World} {p m n : Nat} {M : Pm} (h : Pv B w p m M) (hB : B ≤ w.heap.size) (hL : S.Lds w) (x : Nd) (hx : x.put.length ≤ 237) (hf : frst M m = some n) :
    Calls Tryz.prog 128 #[.pointer (some ⟨p, 0, none⟩), .int .i64 (kindOf x), .string (N.bs x.put)] w fun e w' => e = .returned (.tuple #[.int .i64 (n : Nat), .int .i64 0]) ∧ Pv B w' p m (pt M n x) ∧ G.On B w w' := by
  obtain ⟨f1, f2, f3, f4⟩ := frst_some hf
  refine (h.add hB hL x hx).mono ?_
  rintro e w' (⟨n', rfl, h1, h2, h3, h4, h5, h6⟩ | ⟨_, _, h6⟩)
  · obtain rfl : n' = n := by
      rcases Nat.lt_trichotomy n' n with q | q | q
      · have := f4 n' h1 q; rw [h3] at this; cases this
      · exact q
      · exact absurd (h6 n f1 q) (by rw [f3]; simp)
    exact ⟨rfl, h4, h5⟩
  · exact absurd (h6 n f1 f2) (by rw [f3]; simp)
theorem Pv.add_none {B : Nat} {w : World} {p m : Nat} {M : Pm} (h : Pv B w p m M) (hB : B ≤ w.heap.size) (hL : S.Lds w) (x : Nd) (hx : x.put.length ≤ 237) (hf : frst M m = none) :
    Calls Tryz.prog 128 #[.pointer (some ⟨p, 0, none⟩), .int .i64 (kindOf x), .string (N.bs x.put)] w fun e w' => e = .returned (.tuple #[.int .i64 0, .int .i64 80]) ∧ w' = w := by
  refine (h.add hB hL x hx).mono ?_
  rintro e w' (⟨n, rfl, h1, h2, h3, _⟩ | ⟨rfl, h5, _⟩)
  · exact absurd (frst_none hf n h1 h2) (by rw [h3]; simp)
  · exact ⟨rfl, h5⟩

/-- A tree under change, in memory. -/
structure CAt (W : World) (c t : Nat) (v : Value) : Prop where
  out : W.heap[c]? = some (.cells #[.pointer (some ⟨t, 0, none⟩), v] 119)
theorem CAt.kept {W W' : World} {c t : Nat} {v : Value} (h : CAt W c t v) (k : Kept W W') : CAt W' c t v := ⟨(k.out.block c (Array.getElem?_eq_some_iff.1 h.out).1).trans h.out⟩
theorem CAt.on {B : Nat} {W W' : World} {c t : Nat} {v : Value} (h : CAt W c t v) (o : G.On B W W') : CAt W' c t v := ⟨o.rows _ _ _ _ h.out calm119⟩
theorem CAt.cs {W : World} {c t : Nat} {v : Value} (h : CAt W c t v) : W.cell? ⟨c, 0, none⟩ = some (.pointer (some ⟨t, 0, none⟩)) ∧ W.cell? ⟨c, 1, none⟩ = some v := by
  refine ⟨?_, ?_⟩ <;> (rw [cell_of_row W c _ _ _ _ h.out]; rfl)

theorem lds_kept {w w' : World} (h : S.Lds w) (k : Kept w w') : S.Lds w' := h.kept ⟨k.out⟩
theorem c4_on {B : Nat} {w w' : World} (o : G.On B w w') {b : Nat} {a0 a1 a2 a3 : Value} (h : C4 w b 52 a0 a1 a2 a3) : C4 w' b 52 a0 a1 a2 a3 := ⟨o.rows _ _ _ _ h.out calm52⟩

set_option maxRecDepth 100000 in
set_option maxHeartbeats 1000000 in
theorem add_some {B : Nat} {w : World} {c t p m n : Nat} {jv : Value} {root : Int} {M : Pm} (hC : CAt w c t jv) (hT : TAt w t p root) (h : Pv B w p m M) (hB : B ≤ w.heap.size) (hL : S.Lds w) {l : Bool} {kp : Option Addr} {nk kc : Nat} {vp : Option Addr} {nv vc : Nat} {ip : Option Addr} {ni ic : Nat} {x : Nd} (hx : NV w l kp nk kc vp nv vc ip ni ic x) (g : N.Good x) (hs : x.put.length ≤ 237) (hf : frst M m = some n) :
    Calls Tryz.prog 91 #[.pointer (some ⟨c, 0, none⟩), .agg #[.bool l, .slice kp nk kc, .slice vp nv vc, .slice ip ni ic]] w fun e w' => e = .returned (.tuple #[.int .i64 (n : Nat), .int .i64 0]) ∧ Pv B w' p m (pt M n x) ∧ G.On B w w' := by
  have K0 : Kept w (w.alloc (.cells #[.bool l, .slice kp nk kc, .slice vp nv vc, .slice ip ni ic] 52)) := (Kept.refl w).alloc _
  have X0 := C4.alloc w 52 (.bool l) (.slice kp nk kc) (.slice vp nv vc) (.slice ip ni ic)
  have HP : Hid (∀ W, Kept w W → Calls Tryz.prog 37 #[.agg #[.bool l, .slice kp nk kc, .slice vp nv vc, .slice ip ni ic]] W fun e w' => e = .returned (.string (N.bs x.put)) ∧ Kept W w') := fun W k => N.put_walk (hx.kept k) g
  have HA : Hid (∀ W, Kept w W → Calls Tryz.prog 128 #[.pointer (some ⟨p, 0, none⟩), .int .i64 (kindOf x), .string (N.bs x.put)] W fun e w' => e = .returned (.tuple #[.int .i64 (n : Nat), .int .i64 0]) ∧ Pv B w' p m (pt M n x) ∧ G.On B W w') := fun W k => (h.kept k).add_some (Nat.le_trans hB k.size) (lds_kept hL k) x hs hf
  have hk : kindOf x = if l = true then 2 else 3 := by unfold kindOf; rw [hx.hl]
  rw [hk] at HA
  obtain ⟨c0, c1⟩ := (hC.kept K0).cs
  obtain ⟨t0, t1⟩ := (hT.kept K0).cs
  obtain ⟨x0, x1, x2, x3⟩ := X0.cs
  have HC : Hid (CAt w c t jv) := hC
  have HT : Hid (TAt w t p root) := hT
  have HV : Hid (Pv B w p m M) := h
  generalize N.bs x.put = sx at HP HA
  clear hx g hs hk h hC hT hf
  cases l with
  | true =>
    simp only [if_true] at HA
    go_enter Tryz.func91, Tryz.ntmps91
    go_wp2
    go_region_held3 (fun W => W.cell? ⟨c, 0, none⟩ = some (.pointer (some ⟨t, 0, none⟩)) ∧ W.cell? ⟨t, 0, none⟩ = some (.pointer (some ⟨p, 0, none⟩)) ∧ W.cell? ⟨w.heap.size, 0, none⟩ = some (.bool true) ∧ W.cell? ⟨w.heap.size, 1, none⟩ = some (.slice kp nk kc) ∧ W.cell? ⟨w.heap.size, 2, none⟩ = some (.slice vp nv vc) ∧ W.cell? ⟨w.heap.size, 3, none⟩ = some (.slice ip ni ic)) (first | trivial | go_keep) (first
      | (go_at_call 37; (with_reducible refine (HP.out _ (by first | exact K0.drew | exact K0)).mono ?_); rintro e w1 ⟨rfl, k1⟩; have K1 : Kept w w1 := Kept.trans (by first | exact K0.drew | exact K0) k1; obtain ⟨d0, d1⟩ := (HC.out.kept K1).cs; obtain ⟨e0, e1⟩ := (HT.out.kept K1).cs; have X1 : C4 w1 w.heap.size 52 (.bool true) (.slice kp nk kc) (.slice vp nv vc) (.slice ip ni ic) := C4.kept (by first | exact X0.drew | exact X0) k1; obtain ⟨y0, y1, y2, y3⟩ := X1.cs)
      | (go_at_call 128; (with_reducible refine (HA.out _ K1).mono ?_); rintro e w2 ⟨rfl, h2, o2⟩; obtain ⟨d0, d1⟩ := ((HC.out.kept K1).on o2).cs; obtain ⟨e0, e1⟩ := ((HT.out.kept K1).on o2).cs; obtain ⟨y0, y1, y2, y3⟩ := (c4_on o2 X1).cs))
    all_goals go_wp2
    all_goals go_ret2
    all_goals exact ⟨rfl, by first | exact h2 | exact h2.kept ((Kept.refl _).drew), by first | exact (G.On.ofKept ⟨K1.out⟩ hB).trans o2 | exact ((G.On.ofKept ⟨K1.out⟩ hB).trans o2).drew⟩
  | false =>
    simp only [Bool.false_eq_true, if_false] at HA
    go_enter Tryz.func91, Tryz.ntmps91
    go_wp2
    go_region_held3 (fun W => W.cell? ⟨c, 0, none⟩ = some (.pointer (some ⟨t, 0, none⟩)) ∧ W.cell? ⟨t, 0, none⟩ = some (.pointer (some ⟨p, 0, none⟩)) ∧ W.cell? ⟨w.heap.size, 0, none⟩ = some (.bool false) ∧ W.cell? ⟨w.heap.size, 1, none⟩ = some (.slice kp nk kc) ∧ W.cell? ⟨w.heap.size, 2, none⟩ = some (.slice vp nv vc) ∧ W.cell? ⟨w.heap.size, 3, none⟩ = some (.slice ip ni ic)) (first | trivial | go_keep) (first
      | (go_at_call 37; (with_reducible refine (HP.out _ (by first | exact K0.drew | exact K0)).mono ?_); rintro e w1 ⟨rfl, k1⟩; have K1 : Kept w w1 := Kept.trans (by first | exact K0.drew | exact K0) k1; obtain ⟨d0, d1⟩ := (HC.out.kept K1).cs; obtain ⟨e0, e1⟩ := (HT.out.kept K1).cs; have X1 : C4 w1 w.heap.size 52 (.bool false) (.slice kp nk kc) (.slice vp nv vc) (.slice ip ni ic) := C4.kept (by first | exact X0.drew | exact X0) k1; obtain ⟨y0, y1, y2, y3⟩ := X1.cs)
      | (go_at_call 128; (with_reducible refine (HA.out _ K1).mono ?_); rintro e w2 ⟨rfl, h2, o2⟩; obtain ⟨d0, d1⟩ := ((HC.out.kept K1).on o2).cs; obtain ⟨e0, e1⟩ := ((HT.out.kept K1).on o2).cs; obtain ⟨y0, y1, y2, y3⟩ := (c4_on o2 X1).cs))
    all_goals go_wp2
    all_goals go_ret2
    all_goals exact ⟨rfl, by first | exact h2 | exact h2.kept ((Kept.refl _).drew), by first | exact (G.On.ofKept ⟨K1.out⟩ hB).trans o2 | exact ((G.On.ofKept ⟨K1.out⟩ hB).trans o2).drew⟩

set_option maxRecDepth 100000 in
set_option maxHeartbeats 1000000 in
theorem add_none {B : Nat} {w : World} {c t p m : Nat} {jv : Value} {root : Int} {M : Pm} (hC : CAt w c t jv) (hT : TAt w t p root) (h : Pv B w p m M) (hB : B ≤ w.heap.size) (hL : S.Lds w) {l : Bool} {kp : Option Addr} {nk kc : Nat} {vp : Option Addr} {nv vc : Nat} {ip : Option Addr} {ni ic : Nat} {x : Nd} (hx : NV w l kp nk kc vp nv vc ip ni ic x) (g : N.Good x) (hs : x.put.length ≤ 237) (hf : frst M m = none) :
    Calls Tryz.prog 91 #[.pointer (some ⟨c, 0, none⟩), .agg #[.bool l, .slice kp nk kc, .slice vp nv vc, .slice ip ni ic]] w fun e w' => e = .returned (.tuple #[.int .i64 0, .int .i64 80]) ∧ Kept w w' := by
  have K0 : Kept w (w.alloc (.cells #[.bool l, .slice kp nk kc, .slice vp nv vc, .slice ip ni ic] 52)) := (Kept.refl w).alloc _
  have X0 := C4.alloc w 52 (.bool l) (.slice kp nk kc) (.slice vp nv vc) (.slice ip ni ic)
  have HP : Hid (∀ W, Kept w W → Calls Tryz.prog 37 #[.agg #[.bool l, .slice kp nk kc, .slice vp nv vc, .slice ip ni ic]] W fun e w' => e = .returned (.string (N.bs x.put)) ∧ Kept W w') := fun W k => N.put_walk (hx.kept k) g
  have HA : Hid (∀ W, Kept w W → Calls Tryz.prog 128 #[.pointer (some ⟨p, 0, none⟩), .int .i64 (kindOf x), .string (N.bs x.put)] W fun e w' => e = .returned (.tuple #[.int .i64 0, .int .i64 80]) ∧ w' = W) := fun W k => (h.kept k).add_none (Nat.le_trans hB k.size) (lds_kept hL k) x hs hf
  have hk : kindOf x = if l = true then 2 else 3 := by unfold kindOf; rw [hx.hl]
  rw [hk] at HA
  obtain ⟨c0, c1⟩ := (hC.kept K0).cs
  obtain ⟨t0, t1⟩ := (hT.kept K0).cs
  obtain ⟨x0, x1, x2, x3⟩ := X0.cs
  have HC : Hid (CAt w c t jv) := hC
  have HT : Hid (TAt w t p root) := hT
  have HV : Hid (Pv B w p m M) := h
  generalize N.bs x.put = sx at HP HA
  clear hx g hs hk h hC hT hf
  cases l with
  | true =>
    simp only [if_true] at HA
    go_enter Tryz.func91, Tryz.ntmps91
    go_wp2
    go_region_held3 (fun W => W.cell? ⟨c, 0, none⟩ = some (.pointer (some ⟨t, 0, none⟩)) ∧ W.cell? ⟨t, 0, none⟩ = some (.pointer (some ⟨p, 0, none⟩)) ∧ W.cell? ⟨w.heap.size, 0, none⟩ = some (.bool true) ∧ W.cell? ⟨w.heap.size, 1, none⟩ = some (.slice kp nk kc) ∧ W.cell? ⟨w.heap.size, 2, none⟩ = some (.slice vp nv vc) ∧ W.cell? ⟨w.heap.size, 3, none⟩ = some (.slice ip ni ic)) (first | trivial | go_keep) (first
      | (go_at_call 37; (with_reducible refine (HP.out _ (by first | exact K0.drew | exact K0)).mono ?_); rintro e w1 ⟨rfl, k1⟩; have K1 : Kept w w1 := Kept.trans (by first | exact K0.drew | exact K0) k1; obtain ⟨d0, d1⟩ := (HC.out.kept K1).cs; obtain ⟨e0, e1⟩ := (HT.out.kept K1).cs; have X1 : C4 w1 w.heap.size 52 (.bool true) (.slice kp nk kc) (.slice vp nv vc) (.slice ip ni ic) := C4.kept (by first | exact X0.drew | exact X0) k1; obtain ⟨y0, y1, y2, y3⟩ := X1.cs)
      | (go_at_call 128; (with_reducible refine (HA.out _ K1).mono ?_); rintro e w2 ⟨rfl, hw2⟩; rw [hw2]; clear hw2))
    all_goals go_wp2
    all_goals go_ret2
    all_goals exact ⟨rfl, by first | exact K1 | exact K1.drew⟩
  | false =>
    simp only [Bool.false_eq_true, if_false] at HA
    go_enter Tryz.func91, Tryz.ntmps91
    go_wp2
    go_region_held3 (fun W => W.cell? ⟨c, 0, none⟩ = some (.pointer (some ⟨t, 0, none⟩)) ∧ W.cell? ⟨t, 0, none⟩ = some (.pointer (some ⟨p, 0, none⟩)) ∧ W.cell? ⟨w.heap.size, 0, none⟩ = some (.bool false) ∧ W.cell? ⟨w.heap.size, 1, none⟩ = some (.slice kp nk kc) ∧ W.cell? ⟨w.heap.size, 2, none⟩ = some (.slice vp nv vc) ∧ W.cell? ⟨w.heap.size, 3, none⟩ = some (.slice ip ni ic)) (first | trivial | go_keep) (first
      | (go_at_call 37; (with_reducible refine (HP.out _ (by first | exact K0.drew | exact K0)).mono ?_); rintro e w1 ⟨rfl, k1⟩; have K1 : Kept w w1 := Kept.trans (by first | exact K0.drew | exact K0) k1; obtain ⟨d0, d1⟩ := (HC.out.kept K1).cs; obtain ⟨e0, e1⟩ := (HT.out.kept K1).cs; have X1 : C4 w1 w.heap.size 52 (.bool false) (.slice kp nk kc) (.slice vp nv vc) (.slice ip ni ic) := C4.kept (by first | exact X0.drew | exact X0) k1; obtain ⟨y0, y1, y2, y3⟩ := X1.cs)
      | (go_at_call 128; (with_reducible refine (HA.out _ K1).mono ?_); rintro e w2 ⟨rfl, hw2⟩; rw [hw2]; clear hw2))
    all_goals go_wp2
    all_goals go_ret2
    all_goals exact ⟨rfl, by first | exact K1 | exact K1.drew⟩

end Go.Proofs.YtncfpjccfmolgaaGreatDoor.T

namespace Go.Proofs.YtncfpjccfmolgaaGreatDoor.T
open Go.ChangeShapes Go.WideShapes Go.ChangeAt Go.RowKit
open B (Pm pt)
open N (Nd NV Nw Rw Rx Kept kcl vcl icl Vl C4 Up)

set_option maxRecDepth 100000 in
set_option maxHeartbeats 2000000 in
theorem node_walk {B : Nat} {w : World} {t p m n : Nat} {root : Int} {M : Pm} (hT : TAt w t p root) (h : Pv B w p m M) {y : Nd} (hy : M n = some y) (g : N.Good y) (hu : Up y.ks) (l : Bool) (hl : y.leaf = l) :
    Calls Tryz.prog 21 #[.pointer (some ⟨t, 0, none⟩), .int .i64 (n : Nat)] w fun e w' => ∃ kp nk kc vp nv vc ip ni ic, e = .returned (.tuple #[.agg #[.bool l, .slice kp nk kc, .slice vp nv vc, .slice ip ni ic], .int .i64 0]) ∧ NV w' l kp nk kc vp nv vc ip ni ic y ∧ Kept w w' ∧ Nw w.heap.size ip := by
  have HN : Hid (∀ W, Kept w W → Calls Tryz.prog 26 #[.pointer (some ⟨t, 0, none⟩)] W fun e w' => e = .returned (.bool false) ∧ w' = W) := fun W k => none_walk (hT.kept k)
  have HR : Hid (∀ W kb fr, Kept w W → W.heap[kb]? = some (.cells #[.int .i64 2, .int .i64 3] 3 fr) → Calls Tryz.prog 39 #[.pointer (some ⟨p, 0, none⟩), .int .i64 (n : Nat), .slice (some ⟨kb, 0, none⟩) 2 2] W fun e w' => (∃ xg : Nat, e = .returned (.tuple #[.agg #[.int .i64 (kindOf y), .int .i64 (n : Nat), .int .u64 (xg : Nat), .string (N.bs y.put)], .int .i64 0])) ∧ Kept W w') := fun W kb fr k hk => (h.kept k).read hk hy
  have HG : Hid (∀ W, Calls Tryz.prog 40 #[.string (N.bs y.put), .bool l] W fun e w' => ∃ kp nk kc vp nv vc ip ni ic, e = .returned (.tuple #[.agg #[.bool l, .slice kp nk kc, .slice vp nv vc, .slice ip ni ic], .int .i64 0]) ∧ NV w' l kp nk kc vp nv vc ip ni ic y ∧ Kept W w' ∧ Nw W.heap.size ip) := fun W => N.get_walk g g.few hu l hl
  have hkd : kindOf y = if l = true then 2 else 3 := by unfold kindOf; rw [hl]
  rw [hkd] at HR
  have K0 : Kept w (w.alloc (.cells #[.bool false, .slice none 0 0, .slice none 0 0, .slice none 0 0] 52)) := (Kept.refl w).alloc _
  have R0 := C4.alloc w 52 (.bool false) (.slice none 0 0) (.slice none 0 0) (.slice none 0 0)
  have S0 := N.size_alloc w (.cells #[.bool false, .slice none 0 0, .slice none 0 0, .slice none 0 0] 52)
  obtain ⟨c0, c1⟩ := (hT.kept K0).cs
  generalize N.bs y.put = sx at *
  clear hkd hl hu g hy h hT
  have KB : Kept w ((w.alloc (.cells #[.bool false, .slice none 0 0, .slice none 0 0, .slice none 0 0] 52)).alloc (.cells #[.int .i64 2, .int .i64 3] 3)) := K0.alloc _
  have hb : ((w.alloc (.cells #[.bool false, .slice none 0 0, .slice none 0 0, .slice none 0 0] 52)).alloc (.cells #[.int .i64 2, .int .i64 3] 3)).heap[(w.alloc (.cells #[.bool false, .slice none 0 0, .slice none 0 0, .slice none 0 0] 52)).heap.size]? = some (.cells #[.int .i64 2, .int .i64 3] 3 (0, 0)) := heap_alloc_new _ _
  rw [S0] at hb
  have RB : C4 ((w.alloc (.cells #[.bool false, .slice none 0 0, .slice none 0 0, .slice none 0 0] 52)).alloc (.cells #[.int .i64 2, .int .i64 3] 3)) w.heap.size 52 (.bool false) (.slice none 0 0) (.slice none 0 0) (.slice none 0 0) := R0.kept ((Kept.refl _).alloc _)
  cases l with
  | true =>
    simp only [if_true] at HR
    go_enter Tryz.func21, Tryz.ntmps21
    go_wp2_with (first
      | (go_at_call 26; (with_reducible refine (HN.out _ K0).mono ?_); rintro e w1 ⟨rfl, hw1⟩; rw [hw1]; clear hw1)
      | (go_at_call 39; (with_reducible refine (HR.out _ _ _ KB hb).mono ?_); rintro e w2 ⟨⟨xg, rfl⟩, k2⟩; have K2 := KB.trans k2; have R2 := RB.kept k2; have P2 := P.Pg.alloc w2 2 (n : Nat) xg sx 90; have K3 : Kept w2 (w2.alloc (.cells #[.int .i64 2, .int .i64 (n : Nat), .int .u64 (xg : Nat), .string sx] 90)) := (Kept.refl _).alloc _; have R3 := R2.kept K3; obtain ⟨y0, y1, y2, y3⟩ := P2.cs; have K30 := K2.trans K3)
      | (go_at_call 40; (with_reducible refine (HG.out _).mono ?_); rintro e v4 ⟨kp, nk, kc, vp, nv, vc, ip, ni, ic, rfl, N4, k4, nw4⟩; have nw5 : Hid (Nw w.heap.size ip) := nw4.mono K30.size; clear nw4; have K4 := K30.trans k4; have R4 := R3.kept k4; have k5 := (Kept.refl v4).alloc (.cells #[.bool true, .slice kp nk kc, .slice vp nv vc, .slice ip ni ic] 52); have N5 := N4.kept k5; have R5 := R4.kept k5; have X5 := C4.alloc v4 52 (.bool true) (.slice kp nk kc) (.slice vp nv vc) (.slice ip ni ic); have K5 := K4.trans k5; obtain ⟨x0, x1, x2, x3⟩ := X5.cs; obtain ⟨⟨g0, f0⟩, ⟨g1, f1⟩, ⟨g2, f2⟩, ⟨g3, f3⟩, hfin⟩ := N.ready4 R5.out (.bool true) (.slice kp nk kc) (.slice vp nv vc) (.slice ip ni ic)))
    have q1 := N5.other R5 (fun k hk => N.others4 _ hk (.bool true) (.slice kp nk kc) (.slice vp nv vc) (.slice ip ni ic))
    have q2 := K5.st4 (b := w.heap.size) (Nat.le_refl _) (.bool true) (.slice kp nk kc) (.slice vp nv vc) (.slice ip ni ic)
    generalize ((((World.setCell _ ⟨w.heap.size, 0, none⟩ (.bool true)).setCell ⟨w.heap.size, 1, none⟩ (.slice kp nk kc)).setCell ⟨w.heap.size, 2, none⟩ (.slice vp nv vc)).setCell ⟨w.heap.size, 3, none⟩ (.slice ip ni ic)) = WF at hfin q1 q2 ⊢
    refine bodyPost_ret (v := .tuple #[.agg #[.bool true, .slice kp nk kc, .slice vp nv vc, .slice ip ni ic], .int .i64 0]) ?_ rfl ⟨_, _, _, _, _, _, _, _, _, rfl, q1, q2, nw5.out⟩
    exact N.results_two (p := 4) (u := 5) (ty := 52) rfl _ _ w.heap.size 52 #[.bool true, .slice kp nk kc, .slice vp nv vc, .slice ip ni ic] (0, 0) _ rfl hfin Tryz.underlying52 rfl N.size52
  | false =>
    simp only [Bool.false_eq_true, if_false] at HR
    go_enter Tryz.func21, Tryz.ntmps21
    go_wp2_with (first
      | (go_at_call 26; (with_reducible refine (HN.out _ K0).mono ?_); rintro e w1 ⟨rfl, hw1⟩; rw [hw1]; clear hw1)
      | (go_at_call 39; (with_reducible refine (HR.out _ _ _ KB hb).mono ?_); rintro e w2 ⟨⟨xg, rfl⟩, k2⟩; have K2 := KB.trans k2; have R2 := RB.kept k2; have P2 := P.Pg.alloc w2 3 (n : Nat) xg sx 90; have K3 : Kept w2 (w2.alloc (.cells #[.int .i64 3, .int .i64 (n : Nat), .int .u64 (xg : Nat), .string sx] 90)) := (Kept.refl _).alloc _; have R3 := R2.kept K3; obtain ⟨y0, y1, y2, y3⟩ := P2.cs; have K30 := K2.trans K3)
      | (go_at_call 40; (with_reducible refine (HG.out _).mono ?_); rintro e v4 ⟨kp, nk, kc, vp, nv, vc, ip, ni, ic, rfl, N4, k4, nw4⟩; have nw5 : Hid (Nw w.heap.size ip) := nw4.mono K30.size; clear nw4; have K4 := K30.trans k4; have R4 := R3.kept k4; have k5 := (Kept.refl v4).alloc (.cells #[.bool false, .slice kp nk kc, .slice vp nv vc, .slice ip ni ic] 52); have N5 := N4.kept k5; have R5 := R4.kept k5; have X5 := C4.alloc v4 52 (.bool false) (.slice kp nk kc) (.slice vp nv vc) (.slice ip ni ic); have K5 := K4.trans k5; obtain ⟨x0, x1, x2, x3⟩ := X5.cs; obtain ⟨⟨g0, f0⟩, ⟨g1, f1⟩, ⟨g2, f2⟩, ⟨g3, f3⟩, hfin⟩ := N.ready4 R5.out (.bool false) (.slice kp nk kc) (.slice vp nv vc) (.slice ip ni ic)))
    have q1 := N5.other R5 (fun k hk => N.others4 _ hk (.bool false) (.slice kp nk kc) (.slice vp nv vc) (.slice ip ni ic))
    have q2 := K5.st4 (b := w.heap.size) (Nat.le_refl _) (.bool false) (.slice kp nk kc) (.slice vp nv vc) (.slice ip ni ic)
    generalize ((((World.setCell _ ⟨w.heap.size, 0, none⟩ (.bool false)).setCell ⟨w.heap.size, 1, none⟩ (.slice kp nk kc)).setCell ⟨w.heap.size, 2, none⟩ (.slice vp nv vc)).setCell ⟨w.heap.size, 3, none⟩ (.slice ip ni ic)) = WF at hfin q1 q2 ⊢
    refine bodyPost_ret (v := .tuple #[.agg #[.bool false, .slice kp nk kc, .slice vp nv vc, .slice ip ni ic], .int .i64 0]) ?_ rfl ⟨_, _, _, _, _, _, _, _, _, rfl, q1, q2, nw5.out⟩
    exact N.results_two (p := 4) (u := 5) (ty := 52) rfl _ _ w.heap.size 52 #[.bool false, .slice kp nk kc, .slice vp nv vc, .slice ip ni ic] (0, 0) _ rfl hfin Tryz.underlying52 rfl N.size52

theorem node_nil (n : Int) (w : World) : Calls Tryz.prog 21 #[.pointer none, .int .i64 n] w fun e w' => e = .returned (.tuple #[.agg #[.bool false, .slice none 0 0, .slice none 0 0, .slice none 0 0], .int .i64 1]) ∧ Kept w w' := by
  have K0 : Kept w (w.alloc (.cells #[.bool false, .slice none 0 0, .slice none 0 0, .slice none 0 0] 52)) := (Kept.refl w).alloc _
  have R0 := C4.alloc w 52 (.bool false) (.slice none 0 0) (.slice none 0 0) (.slice none 0 0)
  have f := none_nil (w.alloc (.cells #[.bool false, .slice none 0 0, .slice none 0 0, .slice none 0 0] 52))
  obtain ⟨⟨g0, f0⟩, ⟨g1, f1⟩, ⟨g2, f2⟩, ⟨g3, f3⟩, hfin⟩ := N.ready4 R0.out (.bool false) (.slice none 0 0) (.slice none 0 0) (.slice none 0 0)
  go_enter Tryz.func21, Tryz.ntmps21
  go_wp2_with (go_at_call 26; (with_reducible refine f.mono ?_); rintro e w1 ⟨rfl, hw1⟩; rw [hw1]; clear hw1)
  refine bodyPost_ret (v := .tuple #[.agg #[.bool false, .slice none 0 0, .slice none 0 0, .slice none 0 0], .int .i64 1]) ?_ rfl ⟨rfl, K0⟩
  exact N.results_two (p := 4) (u := 5) (ty := 52) rfl _ _ w.heap.size 52 #[.bool false, .slice none 0 0, .slice none 0 0, .slice none 0 0] (0, 0) _ rfl R0.out Tryz.underlying52 rfl N.size52

theorem place_walk {w : World} {l : Bool} {kp : Option Addr} {nk kc : Nat} {vp : Option Addr} {nv vc : Nat} {ip : Option Addr} {ni ic : Nat} {x : Nd} (h : NV w l kp nk kc vp nv vc ip ni ic x) (g : N.Good x) (key : ByteArray) :
    Calls Tryz.prog 51 #[.agg #[.bool l, .slice kp nk kc, .slice vp nv vc, .slice ip ni ic], .string key] w fun e w' => e = .returned (.int .i64 (B.plc x key : Nat)) ∧ Kept w w' := by
  have K0 : Kept w (w.alloc (.cells #[.bool l, .slice kp nk kc, .slice vp nv vc, .slice ip ni ic] 52)) := (Kept.refl w).alloc _
  have X0 := C4.alloc w 52 (.bool l) (.slice kp nk kc) (.slice vp nv vc) (.slice ip ni ic)
  obtain ⟨x0, x1, x2, x3⟩ := X0.cs
  have hn := h.nk
  have hf := g.few
  have f := N.find_walk ((h.kept K0).k) (by omega) key
  have hle := N.fnd_le key x.ks
  have HP : Hid (B.plc x key = N.fnd key x.ks + (if N.isk key x.ks = true then 1 else 0)) := rfl
  have hb : N.fnd key x.ks ≤ 120 := by omega
  generalize N.fnd key x.ks = i at *
  generalize N.isk key x.ks = b at *
  clear hle hf hn h g
  cases b with
  | true =>
    go_enter Tryz.func51, Tryz.ntmps51
    go_wp2_with (go_at_call 33; (with_reducible refine f.mono ?_); rintro e w1 ⟨rfl, hw1⟩; rw [hw1]; clear hw1)
    go_ret
    refine ⟨?_, K0⟩
    rw [HP.out]; simp
  | false =>
    go_enter Tryz.func51, Tryz.ntmps51
    go_wp2_with (go_at_call 33; (with_reducible refine f.mono ?_); rintro e w1 ⟨rfl, hw1⟩; rw [hw1]; clear hw1)
    go_ret
    refine ⟨?_, K0⟩
    rw [HP.out]; simp
end Go.Proofs.YtncfpjccfmolgaaGreatDoor.T

namespace Go.Proofs.YtncfpjccfmolgaaGreatDoor.T
open Go.ChangeShapes Go.WideShapes Go.ChangeAt Go.RowKit
open B (Pm pt)
open N (Nd NV Rw Rx Own Kept kcl vcl icl Vl C4)

theorem own_nil (w : World) (B : Nat) (e : TypeId) (sz : Nat) : Own w B e sz none 0 0 [] := ⟨World.ownsRow_nil _ _ _ _⟩
theorem one_cell (w : World) (v : Value) (t : TypeId) : ∀ j u, [v][j]? = some u → (w.alloc (.cells #[v] t)).cell? ((⟨w.heap.size, 0, none⟩ : Addr).add j) = some u := by
  intro j u hj
  rw [Addr.add_lit, Nat.zero_add, cell_of_row _ _ _ _ _ _ (heap_alloc_new w (.cells #[v] t))]
  cases j with
  | zero => simpa using hj
  | succ j => simp at hj
theorem owns_shape {w : World} {B : Nat} {e : TypeId} {sz : Nat} {v : Value} {n : Nat} {cs : List Value} (h : w.ownsRow B e sz v n cs) : ∃ p c, v = .slice p n c := by
  rcases h.2 with ⟨rfl, rfl⟩ | ⟨g, cap, cur, rfl, _⟩
  · exact ⟨_, _, rfl⟩
  · exact ⟨_, _, rfl⟩

/-- The block of a row of one's own. -/
theorem own_blk {B : Nat} {w : World} {e : TypeId} {sz : Nat} {p : Option Addr} {n c : Nat} {cs : List Value} (h : Own w B e sz p n c cs) : ∀ b, (Value.slice p n c).ownBlock = some b → B ≤ b ∧ ∃ cs' fr, w.heap[b]? = some (.cells cs' e fr) := by
  intro b hb
  rcases h.cases with ⟨rfl, _⟩ | ⟨g, cur, rfl, h1, _, h2, _⟩
  · cases hb
  · have e : some g = some b := hb
    obtain rfl := Option.some.inj e
    exact ⟨h1, _, _, h2⟩

set_option maxRecDepth 100000 in
set_option maxHeartbeats 1000000 in
theorem put_i {B : Nat} {w : World} {c t p m n : Nat} {jv : Value} {root : Int} {M : Pm} (hC : CAt w c t jv) (hT : TAt w t p root) (h : Pv B w p m M) (hB : B ≤ w.heap.size) (hL : S.Lds w) {l : Bool} {kp : Option Addr} {nk kc : Nat} {vp : Option Addr} {nv vc : Nat} {ip : Option Addr} {ni ic : Nat} {x : Nd} (hx : NV w l kp nk kc vp nv vc ip ni ic x) (g : N.Good x) (hs : x.put.length ≤ 237) (hf : frst M m = some n) :
    Calls Tryz.prog 87 #[.pointer (some ⟨c, 0, none⟩), .agg #[.bool l, .slice kp nk kc, .slice vp nv vc, .slice ip ni ic]] w fun e w' => ∃ pp pc, e = .returned (.tuple #[.slice pp 1 pc, .slice none 0 0, .int .i64 0]) ∧ Own w' w.heap.size 3 1 pp 1 pc (icl [(n : Int)]) ∧ Pv B w' p m (pt M n x) ∧ G.On B w w' := by
  obtain ⟨i3, hi3, hz30, hz31, hz32⟩ := info_parts N.info3
  obtain ⟨i9, hi9, hz90, hz91, hz92⟩ := info_parts N.info9
  have K0 : Kept w (w.alloc (.cells #[.bool l, .slice kp nk kc, .slice vp nv vc, .slice ip ni ic] 52)) := (Kept.refl w).alloc _
  have X0 := C4.alloc w 52 (.bool l) (.slice kp nk kc) (.slice vp nv vc) (.slice ip ni ic)
  obtain ⟨x0, x1, x2, x3⟩ := X0.cs
  have HC : Hid (CAt w c t jv) := hC
  have HT : Hid (TAt w t p root) := hT
  have HV : Hid (Pv B w p m M) := h
  have HL : Hid (S.Lds w) := hL
  have HF : Hid (frst M m = some n) := hf
  have HP := N.part_small (hx.kept K0) g hs
  have HGd : Hid (N.Good x) := g
  have HS : Hid (x.put.length ≤ 237) := hs
  clear hC hT h hL hf g hs hx
  go_enter Tryz.func87, Tryz.ntmps87
  go_wp2_with (go_at_call 121; (with_reducible refine HP.mono ?_); rintro e w1 ⟨gp, kp', kc', vp', nv', vc', ip', ni', ic', rfl, C1, N1, k1⟩; have K1 := K0.trans k1; have k2 : Kept w1 (w1.alloc (.cells #[.bool l, .slice kp' nk kc', .slice vp' nv' vc', .slice ip' ni' ic'] 52)) := (Kept.refl w1).alloc _; have K2 := K1.trans k2; have X2 := C4.alloc w1 52 (.bool l) (.slice kp' nk kc') (.slice vp' nv' vc') (.slice ip' ni' ic'); have HA := add_some (HC.out.kept K2) (HT.out.kept K2) (HV.out.kept K2) (Nat.le_trans hB K2.size) (lds_kept HL.out K2) (N1.kept k2) HGd.out HS.out HF.out; obtain ⟨y0, y1, y2, y3⟩ := C1.cs; obtain ⟨z0, z1, z2, z3⟩ := X2.cs; clear HP)
  refine wp_loop_rounds 2 ?_
  rw [rounds_succ]
  go_wp2_with (first
    | (go_at_call 91; (with_reducible refine HA.mono ?_); rintro e w3 ⟨rfl, h3, o3⟩; have ob : w.heap.size ≤ w3.heap.size := Nat.le_trans K2.size o3.size)
    | (at_builtin; refine wpList_append_own _ rfl _ _ 50 rfl w.heap.size 3 i3 _ 1 8 Tryz.underlying50 hi3 hz30 hz31 hz32 rfl (by decide) (.slice none 0 0) 0 (icl []) rfl (own_nil _ _ _ _).out ⟨w3.heap.size, 0, none⟩ 1 1 [.int .i64 (n : Nat)] rfl rfl (one_cell w3 _ 3) (by intro u hu; simp at hu; subst hu; rfl) (by decide) (by decide) (Nat.le_trans ob ((Kept.refl w3).alloc _).size) ?_; intro v' w4 o4 g4 _; obtain ⟨pp, pc, rfl⟩ := owns_shape o4; have k34 : Kept w3 w4 := N.grown_kept (B := w3.heap.size) w3 ((Kept.refl w3).alloc _) g4 (Nat.le_refl _) (fun k e => by cases e); have O4 : Hid (Own w4 w.heap.size 3 1 pp 1 pc (icl [(n : Int)])) := ⟨o4⟩; clear o4 g4))
  rw [rounds_succ]
  go_wp2
  go_ret3
  exact ⟨_, _, rfl, O4.out, h3.kept k34, ((G.On.ofKept ⟨K2.out⟩ hB).trans o3).kept ⟨k34.out⟩ hB⟩
set_option maxRecDepth 100000 in
set_option maxHeartbeats 1000000 in
theorem put_o {B : Nat} {w : World} {c t p m : Nat} {jv : Value} {root : Int} {M : Pm} (hC : CAt w c t jv) (hT : TAt w t p root) (h : Pv B w p m M) (hB : B ≤ w.heap.size) (hL : S.Lds w) {l : Bool} {kp : Option Addr} {nk kc : Nat} {vp : Option Addr} {nv vc : Nat} {ip : Option Addr} {ni ic : Nat} {x : Nd} (hx : NV w l kp nk kc vp nv vc ip ni ic x) (g : N.Good x) (hs : x.put.length ≤ 237) (hf : frst M m = none) :
    Calls Tryz.prog 87 #[.pointer (some ⟨c, 0, none⟩), .agg #[.bool l, .slice kp nk kc, .slice vp nv vc, .slice ip ni ic]] w fun e w' => e = .returned (.tuple #[.slice none 0 0, .slice none 0 0, .int .i64 80]) ∧ Kept w w' := by
  obtain ⟨i3, hi3, hz30, hz31, hz32⟩ := info_parts N.info3
  obtain ⟨i9, hi9, hz90, hz91, hz92⟩ := info_parts N.info9
  have K0 : Kept w (w.alloc (.cells #[.bool l, .slice kp nk kc, .slice vp nv vc, .slice ip ni ic] 52)) := (Kept.refl w).alloc _
  have X0 := C4.alloc w 52 (.bool l) (.slice kp nk kc) (.slice vp nv vc) (.slice ip ni ic)
  obtain ⟨x0, x1, x2, x3⟩ := X0.cs
  have HC : Hid (CAt w c t jv) := hC
  have HT : Hid (TAt w t p root) := hT
  have HV : Hid (Pv B w p m M) := h
  have HL : Hid (S.Lds w) := hL
  have HF : Hid (frst M m = none) := hf
  have HP := N.part_small (hx.kept K0) g hs
  have HGd : Hid (N.Good x) := g
  have HS : Hid (x.put.length ≤ 237) := hs
  clear hC hT h hL hf g hs hx
  go_enter Tryz.func87, Tryz.ntmps87
  go_wp2_with (go_at_call 121; (with_reducible refine HP.mono ?_); rintro e w1 ⟨gp, kp', kc', vp', nv', vc', ip', ni', ic', rfl, C1, N1, k1⟩; have K1 := K0.trans k1; have k2 : Kept w1 (w1.alloc (.cells #[.bool l, .slice kp' nk kc', .slice vp' nv' vc', .slice ip' ni' ic'] 52)) := (Kept.refl w1).alloc _; have K2 := K1.trans k2; have X2 := C4.alloc w1 52 (.bool l) (.slice kp' nk kc') (.slice vp' nv' vc') (.slice ip' ni' ic'); have HA := add_none (HC.out.kept K2) (HT.out.kept K2) (HV.out.kept K2) (Nat.le_trans hB K2.size) (lds_kept HL.out K2) (N1.kept k2) HGd.out HS.out HF.out; obtain ⟨y0, y1, y2, y3⟩ := C1.cs; obtain ⟨z0, z1, z2, z3⟩ := X2.cs; clear HP)
  refine wp_loop_rounds 2 ?_
  rw [rounds_succ]
  go_wp2_with (go_at_call 91; (with_reducible refine HA.mono ?_); rintro e w3 ⟨rfl, k3⟩)
  go_ret3
  exact ⟨rfl, K2.trans k3⟩
end Go.Proofs.YtncfpjccfmolgaaGreatDoor.T

namespace Go.Proofs.YtncfpjccfmolgaaGreatDoor.T
open Go.ChangeShapes Go.WideShapes Go.ChangeAt Go.RowKit
open B (Pm pt)
open N (Nd NV Rw Rx Own Kept kcl vcl icl Vl C4)

theorem crown_err {w : World} {c : Nat} {l : Bool} {kp : Option Addr} {nk kc : Nat} {vp : Option Addr} {nv vc : Nat} {ip : Option Addr} {ni ic : Nat} {Q : World → Prop} (hn : 0 < nk)
    (f : Calls Tryz.prog 87 #[.pointer (some ⟨c, 0, none⟩), .agg #[.bool l, .slice kp nk kc, .slice vp nv vc, .slice ip ni ic]] (w.alloc (.cells #[.bool l, .slice kp nk kc, .slice vp nv vc, .slice ip ni ic] 52)) fun e w' => e = .returned (.tuple #[.slice none 0 0, .slice none 0 0, .int .i64 80]) ∧ Q w') :
    Calls Tryz.prog 57 #[.pointer (some ⟨c, 0, none⟩), .agg #[.bool l, .slice kp nk kc, .slice vp nv vc, .slice ip ni ic]] w fun e w' => e = .returned (.tuple #[.int .i64 0, .int .i64 80]) ∧ Q w' := by
  have X0 := C4.alloc w 52 (.bool l) (.slice kp nk kc) (.slice vp nv vc) (.slice ip ni ic)
  obtain ⟨x0, x1, x2, x3⟩ := X0.cs
  have h0 : ¬ nk = 0 := by omega
  go_enter Tryz.func57, Tryz.ntmps57
  go_wp2_with (go_at_call 87; (with_reducible refine f.mono ?_); rintro e w1 ⟨rfl, q1⟩)
  go_ret2
  exact ⟨rfl, q1⟩
theorem crown_one {w : World} {c B n : Nat} {l : Bool} {kp : Option Addr} {nk kc : Nat} {vp : Option Addr} {nv vc : Nat} {ip : Option Addr} {ni ic : Nat} {Q : World → Prop} (hn : 0 < nk)
    (f : Calls Tryz.prog 87 #[.pointer (some ⟨c, 0, none⟩), .agg #[.bool l, .slice kp nk kc, .slice vp nv vc, .slice ip ni ic]] (w.alloc (.cells #[.bool l, .slice kp nk kc, .slice vp nv vc, .slice ip ni ic] 52)) fun e w' => ∃ pp pc, e = .returned (.tuple #[.slice pp 1 pc, .slice none 0 0, .int .i64 0]) ∧ Own w' B 3 1 pp 1 pc (icl [(n : Int)]) ∧ Q w') :
    Calls Tryz.prog 57 #[.pointer (some ⟨c, 0, none⟩), .agg #[.bool l, .slice kp nk kc, .slice vp nv vc, .slice ip ni ic]] w fun e w' => e = .returned (.tuple #[.int .i64 (n : Nat), .int .i64 0]) ∧ Q w' := by
  have X0 := C4.alloc w 52 (.bool l) (.slice kp nk kc) (.slice vp nv vc) (.slice ip ni ic)
  obtain ⟨x0, x1, x2, x3⟩ := X0.cs
  have h0 : ¬ nk = 0 := by omega
  go_enter Tryz.func57, Tryz.ntmps57
  go_wp2_with (go_at_call 87; (with_reducible refine f.mono ?_); rintro e w1 ⟨pp, pc, rfl, o1, q1⟩; obtain ⟨g, rfl⟩ := o1.some_of (by decide); have y0 := o1.cell (j := 0) (u := .int .i64 (n : Nat)) rfl)
  go_ret2
  exact ⟨rfl, q1⟩
end Go.Proofs.YtncfpjccfmolgaaGreatDoor.T
