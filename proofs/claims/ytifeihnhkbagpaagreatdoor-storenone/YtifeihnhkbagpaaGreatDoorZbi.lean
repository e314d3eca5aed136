/- Joined: TV TXa. What is proved of the functions beneath StoreNone. Conditions: those that each row names. -/
import Derived.Test.YtifeihnhkbagpaaGreatDoorZbg
namespace Go.Proofs.YtifeihnhkbagpaaGreatDoor.T
open Go.ChangeShapes Go.WideShapes Go.ChangeAt Go.RowKit
open B (path_zero stpAt fm Pm pt drp Stp plc Ext WfN us Lv Pf Mk En R upd Tr Tree con path path_length path_pf path_next cA cC got path_got Wf)
open N (Nd NV NZ Nw Rw Rx Own Kept kcl vcl icl Vl C4 C3 Up blk fnd isk oldV)
abbrev oprtv0 : Go.Oper := { dst := none, op := Go.Op.store 77 (Go.Operand.tmp 12) (Go.Operand.tmp 45), type := 0, pos := "btree.go:76", after := #[{ on := 10, ground := Go.Ground.data }, { on := 7, ground := Go.Ground.data }, { on := 11, ground := Go.Ground.chain }, { on := 0, ground := Go.Ground.phase }, { on := 1, ground := Go.Ground.phase }, { on := 2, ground := Go.Ground.phase }, { on := 3, ground := Go.Ground.phase }, { on := 4, ground := Go.Ground.phase }, { on := 5, ground := Go.Ground.phase }, { on := 6, ground := Go.Ground.phase }, { on := 7, ground := Go.Ground.phase }, { on := 8, ground := Go.Ground.textOnly Go.Departure.lateStores }, { on := 9, ground := Go.Ground.phase }, { on := 10, ground := Go.Ground.phase }, { on := 11, ground := Go.Ground.phase }], guard := none }
abbrev oprtv1 : Go.Oper := { dst := none, op := Go.Op.store 121 (Go.Operand.tmp 11) (Go.Operand.tmp 44), type := 0, pos := "btree.go:76", after := #[{ on := 9, ground := Go.Ground.data }, { on := 6, ground := Go.Ground.data }, { on := 4, ground := Go.Ground.chain }, { on := 0, ground := Go.Ground.phase }, { on := 1, ground := Go.Ground.phase }, { on := 2, ground := Go.Ground.phase }, { on := 3, ground := Go.Ground.phase }, { on := 4, ground := Go.Ground.phase }, { on := 5, ground := Go.Ground.phase }, { on := 6, ground := Go.Ground.phase }, { on := 7, ground := Go.Ground.textOnly Go.Departure.lateStores }, { on := 8, ground := Go.Ground.textOnly Go.Departure.lateStores }, { on := 9, ground := Go.Ground.phase }, { on := 10, ground := Go.Ground.phase }], guard := none }
abbrev oprtv2 : Go.Oper := { dst := some 13, op := Go.Op.assign (Go.Operand.tmp 46), type := 4, pos := "btree.go:76", after := #[{ on := 8, ground := Go.Ground.data }, { on := 12, ground := Go.Ground.chain }, { on := 0, ground := Go.Ground.phase }, { on := 1, ground := Go.Ground.phase }, { on := 2, ground := Go.Ground.phase }, { on := 3, ground := Go.Ground.phase }, { on := 4, ground := Go.Ground.phase }, { on := 5, ground := Go.Ground.phase }, { on := 6, ground := Go.Ground.phase }, { on := 7, ground := Go.Ground.phase }, { on := 8, ground := Go.Ground.phase }, { on := 9, ground := Go.Ground.phase }, { on := 10, ground := Go.Ground.phase }, { on := 11, ground := Go.Ground.phase }, { on := 12, ground := Go.Ground.phase }], guard := none }
abbrev oprtv3 : Go.Oper := { dst := some 43, op := Go.Op.call { callee := Go.Callee.value (Go.Operand.func 93), args := #[Go.Operand.tmp 40, Go.Operand.tmp 41, Go.Operand.tmp 42], argTypes := #[121, 9, 77] }, type := 149, pos := "btree.go:76", after := #[{ on := 1, ground := Go.Ground.data }, { on := 2, ground := Go.Ground.data }, { on := 3, ground := Go.Ground.data }, { on := 1, ground := Go.Ground.chain }], guard := none }
abbrev oprtv4 : Go.Oper := { dst := some 40, op := Go.Op.call { callee := Go.Callee.value (Go.Operand.func 63), args := #[Go.Operand.tmp 39], argTypes := #[116] }, type := 121, pos := "btree.go:76", after := #[{ on := 0, ground := Go.Ground.data }], guard := none }
abbrev oprtv5 : Go.Oper := { dst := some 45, op := Go.Op.extract (Go.Operand.tmp 38) 1, type := 77, pos := "btree.go:76", after := #[{ on := 5, ground := Go.Ground.data }, { on := 11, ground := Go.Ground.gcOnly Go.Departure.lateStores }], guard := none }
abbrev oprtv6 : Go.Oper := { dst := some 46, op := Go.Op.extract (Go.Operand.tmp 38) 2, type := 4, pos := "btree.go:76", after := #[{ on := 5, ground := Go.Ground.data }, { on := 12, ground := Go.Ground.gcOnly Go.Departure.lateStores }], guard := none }
abbrev oprtv7 : Go.Oper := { dst := some 44, op := Go.Op.extract (Go.Operand.tmp 38) 0, type := 121, pos := "btree.go:76", after := #[{ on := 5, ground := Go.Ground.data }], guard := none }
abbrev oprtv8 : Go.Oper := { dst := some 38, op := Go.Op.move (Go.Operand.tmp 43), type := 149, pos := "btree.go:76", after := #[{ on := 4, ground := Go.Ground.data }], guard := none }
abbrev oprtv9 : Go.Oper := { dst := some 42, op := Go.Op.load 77 (Go.Operand.tmp 5), type := 77, pos := "btree.go:76", after := #[], guard := none }
abbrev oprtv10 : Go.Oper := { dst := some 39, op := Go.Op.move (Go.Operand.tmp 9), type := 116, pos := "btree.go:76", after := #[], guard := none }
abbrev oprtv11 : Go.Oper := { dst := some 41, op := Go.Op.move (Go.Operand.tmp 1), type := 9, pos := "btree.go:76", after := #[], guard := none }
abbrev oprtv12 : Go.Oper := { dst := some 11, op := Go.Op.alloc 121, type := 0, pos := "btree.go:76", after := #[], guard := none }
abbrev oprtv13 : Go.Oper := { dst := some 12, op := Go.Op.alloc 77, type := 0, pos := "btree.go:76", after := #[], guard := none }

structure WayS (kx B t p : Nat) (m : Xm) (root : Int) (M0 : Pm) (ln : List En) (key : ByteArray) (vd : ByteArray) (vp' vl' : Int) (old : Vl) (ib : Bool) (ks' : List ByteArray) (vs' : List Vl) (w1 : World) (q : Option Addr) (n cap : Nat) (zl : Bool) (zkp : Option Addr) (znk zkc : Nat) (zvp : Option Addr) (znv zvc : Nat) (zip : Option Addr) (zni zic : Nat) : Prop where
  f3 : ∀ W, Kept w1 W → Calls Tryz.prog 63 #[.slice q n cap] W fun e w' => e = .returned (.agg #[.bool zl, .slice zkp znk zkc, .slice zvp znv zvc, .slice zip zni zic]) ∧ Kept W w'
  f4 : ∀ W, Kept w1 W → Calls Tryz.prog 93 #[.agg #[.bool zl, .slice zkp znk zkc, .slice zvp znv zvc, .slice zip zni zic], .string key, .agg #[.string vd, .int .i64 vp', .int .i64 vl']] W fun e w' => ∃ kp' mm kc' vp'' vc', e = .returned (.tuple #[.agg #[.bool true, .slice kp' mm kc', .slice vp'' mm vc', .slice none 0 0], .agg #[.string old.d, .int .i64 old.p, .int .i64 old.l], .bool ib]) ∧ Own w' W.heap.size 9 1 kp' mm kc' (kcl ks') ∧ Own w' W.heap.size 77 3 vp'' mm vc' (vcl vs') ∧ Kept W w'
  f5 : ∀ W kp' mm kc' vp'' vc', Kept w1 W → NV W true kp' mm kc' vp'' mm vc' none 0 0 ⟨true, ks', vs', []⟩ → Calls Tryz.prog 86 #[.pointer (some ⟨t, 0, none⟩), .slice q n cap, .agg #[.bool true, .slice kp' mm kc', .slice vp'' mm vc', .slice none 0 0]] W (RPost kx B t p m root M0 ln W)
structure Pc (w1 : World) (old : Vl) (ib : Bool) (ks' : List ByteArray) (vs' : List Vl) (a b c : Value) (wx : World) : Prop where
  out : ∃ a9 a10 kp' mm kc' vp' vc', a = .pointer (some ⟨a9, 0, none⟩) ∧ b = .pointer (some ⟨a10, 0, none⟩) ∧ c = .bool ib ∧ C4 wx a9 121 (.bool true) (.slice kp' mm kc') (.slice vp' mm vc') (.slice none 0 0) ∧ C3 wx a10 77 (.string old.d) (.int .i64 old.p) (.int .i64 old.l) ∧ NV wx true kp' mm kc' vp' mm vc' none 0 0 ⟨true, ks', vs', []⟩ ∧ Kept w1 wx
theorem pc_of {w1 wk : World} {old : Vl} {ib : Bool} {ks' : List ByteArray} {vs' : List Vl} {a9 a10 B1 B2 : Nat} {kp' : Option Addr} {mm kc' : Nat} {vp' : Option Addr} {vc' : Nat} (hA : wk.heap[a9]? = some (.cells #[.bool false, .slice none 0 0, .slice none 0 0, .slice none 0 0] 121)) (hZ : wk.heap[a10]? = some (.cells #[.string ⟨#[]⟩, .int .i64 0, .int .i64 0] 77)) (OK : Own wk B1 9 1 kp' mm kc' (kcl ks')) (OV : Own wk B2 77 3 vp' mm vc' (vcl vs')) (hB2 : a10 < B2 ∨ ∀ b off ph, vp' = some ⟨b, off, ph⟩ → b ≠ a10) (J : Kept w1 wk) (h9 : w1.heap.size ≤ a9) (h10 : w1.heap.size ≤ a10) :
    Pc w1 old ib ks' vs' (.pointer (some ⟨a9, 0, none⟩)) (.pointer (some ⟨a10, 0, none⟩)) (.bool ib) (((((((wk.setCell ⟨a9, 0, none⟩ (.bool true)).setCell ⟨a9, 1, none⟩ (.slice kp' mm kc')).setCell ⟨a9, 2, none⟩ (.slice vp' mm vc')).setCell ⟨a9, 3, none⟩ (.slice none 0 0)).setCell ⟨a10, 0, none⟩ (.string old.d)).setCell ⟨a10, 1, none⟩ (.int .i64 old.p)).setCell ⟨a10, 2, none⟩ (.int .i64 old.l)) := by
  have hne : a9 ≠ a10 := by rintro rfl; rw [hA] at hZ; cases hZ
  obtain ⟨_, _, _, _, hf9⟩ := N.ready4 hA (.bool true) (.slice kp' mm kc') (.slice vp' mm vc') (.slice none 0 0)
  have o9 : ∀ k, k ≠ a9 → ((((wk.setCell ⟨a9, 0, none⟩ (.bool true)).setCell ⟨a9, 1, none⟩ (.slice kp' mm kc')).setCell ⟨a9, 2, none⟩ (.slice vp' mm vc')).setCell ⟨a9, 3, none⟩ (.slice none 0 0)).heap[k]? = wk.heap[k]? := fun k hk => N.others4 _ hk _ _ _ _
  have k9 : Kept w1 ((((wk.setCell ⟨a9, 0, none⟩ (.bool true)).setCell ⟨a9, 1, none⟩ (.slice kp' mm kc')).setCell ⟨a9, 2, none⟩ (.slice vp' mm vc')).setCell ⟨a9, 3, none⟩ (.slice none 0 0)) := J.st4 h9 _ _ _ _
  have OK9 := own_same OK hA (by decide) o9
  have OV9 := own_same OV hA (by decide) o9
  have hZ9 := (o9 a10 (Ne.symm hne)).trans hZ
  generalize ((((wk.setCell ⟨a9, 0, none⟩ (.bool true)).setCell ⟨a9, 1, none⟩ (.slice kp' mm kc')).setCell ⟨a9, 2, none⟩ (.slice vp' mm vc')).setCell ⟨a9, 3, none⟩ (.slice none 0 0)) = W9 at *
  obtain ⟨_, _, _, hf10⟩ := N.ready3 hZ9 (.string old.d) (.int .i64 old.p) (.int .i64 old.l)
  have o10 : ∀ k, k ≠ a10 → (((W9.setCell ⟨a10, 0, none⟩ (.string old.d)).setCell ⟨a10, 1, none⟩ (.int .i64 old.p)).setCell ⟨a10, 2, none⟩ (.int .i64 old.l)).heap[k]? = W9.heap[k]? := fun k hk => by
    rw [heap_setCell_other _ ⟨a10, 2, none⟩ k _ hk, heap_setCell_other _ ⟨a10, 1, none⟩ k _ hk, heap_setCell_other _ ⟨a10, 0, none⟩ k _ hk]
  have k10 := k9.st3 h10 (.string old.d) (.int .i64 old.p) (.int .i64 old.l)
  have OK10 := own_same OK9 hZ9 (by decide) o10
  have OV10 : Own (((W9.setCell ⟨a10, 0, none⟩ (.string old.d)).setCell ⟨a10, 1, none⟩ (.int .i64 old.p)).setCell ⟨a10, 2, none⟩ (.int .i64 old.l)) B2 77 3 vp' mm vc' (vcl vs') := by
    refine ⟨OV9.out.1, ?_⟩
    rcases OV9.out.2 with h1 | ⟨b, cp, cur, e1, e2, e3, e4⟩
    · exact .inl h1
    · refine .inr ⟨b, cp, cur, e1, e2, (o10 b (fun e => ?_)).trans e3, e4⟩
      rcases hB2 with h | h
      · omega
      · injection e1 with e1; exact h b 0 none e1 e
  refine ⟨a9, a10, kp', mm, kc', vp', vc', rfl, rfl, rfl, C4.mk ((o10 a9 hne).trans hf9), ⟨hf10⟩, ⟨rfl, OK10.rw, OV10.rw, ⟨rfl, Nat.le_refl _, Nat.zero_le _, .inl ⟨rfl, rfl⟩⟩, OK10.rx, OV10.rx, N.Rx.none _ _⟩, k10⟩

theorem own_nlt {w : World} {B b off : Nat} {ph : Option Nat} {e : TypeId} {sz n cap : Nat} {p : Option Addr} {cs : List Value} (h : Own w B e sz p n cap cs) (hp : p = some ⟨b, off, ph⟩) : b < w.heap.size := by
  rcases h.cases with ⟨hx, _⟩ | ⟨g', cur, hx, _, hlt, _⟩
  · rw [hx] at hp; cases hp
  · rw [hx] at hp; injection hp with hp; injection hp with hp; subst hp; exact hlt

def PPost (kx B t p : Nat) (m : Xm) (root : Int) (M0 : Pm) (ln : List En) (old : Vl) (ib : Bool) (w : World) (e : Ending) (w' : World) : Prop :=
  (e = .returned (.tuple #[.agg #[.string old.d, .int .i64 old.p, .int .i64 old.l], .bool ib, .int .i64 0]) ∧ ∃ M' r, Tree M' r ln ∧ TAt w' t p r ∧ Pv B w' p m M' ∧ Tx B t w w') ∨ (e = .returned (.tuple #[.agg #[.string ⟨#[]⟩, .int .i64 0, .int .i64 0], .bool false, .int .i64 80]) ∧ ∃ M', Er m M0 M' kx ∧ TAt w' t p root ∧ Pv B w' p m M' ∧ Tx B t w w')
theorem tx_oth {B t : Nat} {a b d : World} (h : Tx B t a b) {z : Nat} (hz : a.heap.size ≤ z) (hB : B ≤ a.heap.size) (hd : Below 0 b d) (ho : ∀ k, k ≠ z → d.heap[k]? = b.heap[k]?) : Tx B t a d := by
  refine ⟨h.below.trans ⟨hd.os, hd.tape, hd.output, hd.size, fun k hk => ho k (by omega)⟩, fun x cs ty fr hx ht hn => (ho x ?_).trans (h.rows x cs ty fr hx ht hn)⟩
  have := (Array.getElem?_eq_some_iff.1 hx).1
  omega
theorem zero3 (W : World) (b : Nat) (v0 v1 v2 : Value) : Below 0 W (((W.setCell ⟨b, 0, none⟩ v0).setCell ⟨b, 1, none⟩ v1).setCell ⟨b, 2, none⟩ v2) :=
  (((Below.refl 0 W).setCell (Nat.zero_le _) v0).setCell (Nat.zero_le _) v1).setCell (Nat.zero_le _) v2
theorem oth3 (W : World) {b k : Nat} (hk : k ≠ b) (v0 v1 v2 : Value) : (((W.setCell ⟨b, 0, none⟩ v0).setCell ⟨b, 1, none⟩ v1).setCell ⟨b, 2, none⟩ v2).heap[k]? = W.heap[k]? := by
  rw [heap_setCell_other _ ⟨b, 2, none⟩ k _ hk, heap_setCell_other _ ⟨b, 1, none⟩ k _ hk, heap_setCell_other _ ⟨b, 0, none⟩ k _ hk]
theorem tat_oth {w w' : World} {t p b : Nat} {root : Int} (h : TAt w t p root) {cc : Array Value} {ty : TypeId} {fr : Nat × Nat} (hb : w.heap[b]? = some (.cells cc ty fr)) (ht : ty ≠ 110) (ho : ∀ k, k ≠ b → w'.heap[k]? = w.heap[k]?) : TAt w' t p root := by
  refine ⟨(ho t (fun e => ?_)).trans h.out⟩
  subst e; rw [h.out] at hb; injection hb with hb; injection hb with _ hb _; exact ht hb.symm

set_option linter.unusedSimpArgs false in
set_option maxRecDepth 100000 in
set_option maxHeartbeats 8000000 in
theorem put_core {kx B : Nat} {w : World} {t p : Nat} {m : Xm} {root r0 : Int} {M0 : Pm} {ln : List En} {key vd : ByteArray} {vp vl : Int} {old : Vl} {ib : Bool} {ks' : List ByteArray} {vs' : List Vl} (hT : TAt w t p r0) (hB : B ≤ w.heap.size) (hk : key.size ≤ 64)
    (fm : ∀ W, Kept w W → Calls Tryz.prog 92 #[.agg #[.string vd, .int .i64 vp, .int .i64 vl]] W fun e w' => e = .returned (.bool true) ∧ Kept W w')
    (fw : ∀ W, Kept w W → Calls Tryz.prog 62 #[.pointer (some ⟨t, 0, none⟩), .string key] W fun e w1 => ∃ q n cap zl zkp znk zkc zvp znv zvc zip zni zic, e = .returned (.tuple #[.slice q n cap, .int .i64 0]) ∧ WayS kx B t p m root M0 ln key vd vp vl old ib ks' vs' w1 q n cap zl zkp znk zkc zvp znv zvc zip zni zic ∧ Kept W w1) :
    Calls Tryz.prog 61 #[.pointer (some ⟨t, 0, none⟩), .string key, .agg #[.string vd, .int .i64 vp, .int .i64 vl]] w (PPost kx B t p m root M0 ln old ib w) := by
  have K0 : Kept w ((w.alloc (.cells #[.string vd, .int .i64 vp, .int .i64 vl] 77)).alloc (.cells #[.string ⟨#[]⟩, .int .i64 0, .int .i64 0] 77)) := ((Kept.refl w).alloc _).alloc _
  have S5 : ((w.alloc (.cells #[.string vd, .int .i64 vp, .int .i64 vl] 77)).alloc (.cells #[.string ⟨#[]⟩, .int .i64 0, .int .i64 0] 77)).heap[w.heap.size]? = some (.cells #[.string vd, .int .i64 vp, .int .i64 vl] 77) := ((Kept.refl _).alloc _).block (heap_alloc_new w _)
  have S6 : ((w.alloc (.cells #[.string vd, .int .i64 vp, .int .i64 vl] 77)).alloc (.cells #[.string ⟨#[]⟩, .int .i64 0, .int .i64 0] 77)).heap[w.heap.size + 1]? = some (.cells #[.string ⟨#[]⟩, .int .i64 0, .int .i64 0] 77) := D.two_new w _ _
  obtain ⟨v0, v1, v2⟩ := (C3.mk S5).cs
  have f1 := none_walk (hT.kept K0)
  have f2 : Hid (∀ W, Calls Tryz.prog 84 #[.string key] W fun e w' => e = .returned (.bool true) ∧ w' = W) := fun W => by have := mayKey_walk W key; rwa [decide_eq_true hk] at this
  have HM : Hid (∀ W, Kept w W → Calls Tryz.prog 92 #[.agg #[.string vd, .int .i64 vp, .int .i64 vl]] W fun e w' => e = .returned (.bool true) ∧ Kept W w') := fm
  have HFw : Hid (∀ W, Kept w W → Calls Tryz.prog 62 #[.pointer (some ⟨t, 0, none⟩), .string key] W fun e w1 => ∃ q n cap zl zkp znk zkc zvp znv zvc zip zni zic, e = .returned (.tuple #[.slice q n cap, .int .i64 0]) ∧ WayS kx B t p m root M0 ln key vd vp vl old ib ks' vs' w1 q n cap zl zkp znk zkc zvp znv zvc zip zni zic ∧ Kept W w1) := fw
  have HB : Hid (B ≤ w.heap.size) := hB
  have HT : Hid (TAt w t p r0) := hT
  clear hT hk fm fw hB
  go_enter Tryz.func61, Tryz.ntmps61
  go_upto_region 6 with (first
    | (go_at_call 57; (with_reducible refine f1.mono ?_); rintro e w1 ⟨rfl, hw1⟩; rw [hw1]; clear hw1 f1)
    | (go_at_call 84; (with_reducible refine (f2.out _).mono ?_); rintro e w1 ⟨rfl, hw1⟩; rw [hw1]; clear hw1 f2)
    | (go_at_call 92; (with_reducible refine (HM.out _ K0).mono ?_); rintro e w2 ⟨rfl, k2⟩; have K2 := K0.trans k2; have S52 := k2.block S5; have S62 := k2.block S6; clear HM)
    | (go_at_call 62; (with_reducible refine (HFw.out _ K2).mono ?_); rintro e w1 ⟨q, n, cap, zl, zkp, znk, zkc, zvp, znv, zvc, zip, zni, zic, rfl, HW0, k1⟩; have HW : Hid (WayS kx B t p m root M0 ln key vd vp vl old ib ks' vs' w1 q n cap zl zkp znk zkc zvp znv zvc zip zni zic) := HW0; have K1 := K2.trans k1; have S51 := k1.block S52; have S61 := k1.block S62; clear HW0 HFw))
  clear v0 v1 v2 S5 S6 S52 S62
  have HSA : Hid (∀ W, Kept w1 W → W.cell? ⟨w.heap.size, 0, none⟩ = some (.string vd) ∧ W.cell? ⟨w.heap.size, 1, none⟩ = some (.int .i64 vp) ∧ W.cell? ⟨w.heap.size, 2, none⟩ = some (.int .i64 vl)) := fun W k => by
    obtain ⟨a, b, c⟩ := (C3.mk (k.block S51)).cs
    exact ⟨a, b, c⟩
  go_cut [11, 12, 13] (fun a b c wx => Pc w1 old ib ks' vs' a b c wx)
  case first =>
    have JI : Kept w1 w1.drew := (Kept.refl w1).drew
    clear K0 K1 K2 k1 k2 S51 S61
    refine wp_region_held_drew (S := (fun W => W.cell? ⟨w.heap.size, 0, none⟩ = some (.string vd) ∧ W.cell? ⟨w.heap.size, 1, none⟩ = some (.int .i64 vp) ∧ W.cell? ⟨w.heap.size, 2, none⟩ = some (.int .i64 vl))) (by kernel_rfl) ?_ (fun hHeld => ?_)
    · exact HSA.out _ (by first | exact (Kept.refl _).drew | exact Kept.refl _)
    generalize w1.drew = X at *
    refine wpAnyH_take (i := 0) (oi := oprtv10) (v := ?_) rfl (by kernel_rfl) (by kernel_rfl) (by kernel_rfl) (fun _ _ _ h => h) (Or.inl ⟨by rfl, ?_⟩) (by assumption) ?_
    rotate_left
    · intro w hSw
      (try dsimp only at hSw)
      go_simp
      all_goals with_reducible rfl
    try simp only [Act.put, List.setIfInBounds_toArray, List.set_cons_zero, List.set_cons_succ]
    refine wpAnyH_take (i := 2) (oi := oprtv11) (v := ?_) rfl (by kernel_rfl) (by kernel_rfl) (by kernel_rfl) (fun _ _ _ h => h) (Or.inl ⟨by rfl, ?_⟩) (by assumption) ?_
    rotate_left
    · intro w hSw
      (try dsimp only at hSw)
      go_simp
      all_goals with_reducible rfl
    try simp only [Act.put, List.setIfInBounds_toArray, List.set_cons_zero, List.set_cons_succ]
    refine wpAnyH_take (i := 3) (oi := oprtv9) (v := ?_) rfl (by kernel_rfl) (by kernel_rfl) (by kernel_rfl) (fun _ _ _ h => h) (Or.inl ⟨by rfl, ?_⟩) (by assumption) ?_
    rotate_left
    · intro w hSw
      (try dsimp only at hSw)
      go_simp
      all_goals with_reducible rfl
    try simp only [Act.put, List.setIfInBounds_toArray, List.set_cons_zero, List.set_cons_succ]
    refine wpAnyH_ready (rs := [1, 9, 10]) (by kernel_rfl) (by simp) ?_
    refine AllReadyH.cons (o := oprtv4) rfl (fun KK hKK => ?_) ?_
    ·
      go_simp
      go_at_call 63
      (with_reducible refine (HW.out.f3 _ JI).mono ?_)
      rintro e X0 ⟨rfl, kk0⟩
      have J0 := JI.trans kk0
      go_wp2_with fail
      refine hKK.out _ _ ?_ (fun hHeld => ?_)
      · (try dsimp only)
        exact HSA.out _ J0
      clear hKK KK
      try simp only [Act.put, List.setIfInBounds_toArray, List.set_cons_zero, List.set_cons_succ]
      refine wpAnyH_ready (rs := [4, 9, 10]) (by kernel_rfl) (by simp) ?_
      refine AllReadyH.cons (o := oprtv3) rfl (fun KK hKK => ?_) ?_
      ·
        go_simp
        go_at_call 93
        (with_reducible refine (HW.out.f4 _ J0).mono ?_)
        rintro e X1 ⟨kp9, mm, kc9, vp9, vc9, rfl, OK1, OV1, kk1⟩
        have J1 := J0.trans kk1
        go_wp2_with fail
        refine hKK.out _ _ ?_ (fun hHeld => ?_)
        · (try dsimp only)
          exact HSA.out _ J1
        clear hKK KK
        try simp only [Act.put, List.setIfInBounds_toArray, List.set_cons_zero, List.set_cons_succ]
        refine wpAnyH_take (i := 5) (oi := oprtv8) (v := ?_) rfl (by kernel_rfl) (by kernel_rfl) (by kernel_rfl) (fun _ _ _ h => h) (Or.inl ⟨by rfl, ?_⟩) (by assumption) ?_
        rotate_left
        · intro w hSw
          (try dsimp only at hSw)
          go_simp
          all_goals with_reducible rfl
        try simp only [Act.put, List.setIfInBounds_toArray, List.set_cons_zero, List.set_cons_succ]
        refine wpAnyH_take (i := 6) (oi := oprtv7) (v := ?_) rfl (by kernel_rfl) (by kernel_rfl) (by kernel_rfl) (fun _ _ _ h => h) (Or.inl ⟨by rfl, ?_⟩) (by assumption) ?_
        rotate_left
        · intro w hSw
          (try dsimp only at hSw)
          go_simp
          all_goals with_reducible rfl
        try simp only [Act.put, List.setIfInBounds_toArray, List.set_cons_zero, List.set_cons_succ]
        refine wpAnyH_take (i := 7) (oi := oprtv5) (v := ?_) rfl (by kernel_rfl) (by kernel_rfl) (by kernel_rfl) (fun _ _ _ h => h) (Or.inl ⟨by rfl, ?_⟩) (by assumption) ?_
        rotate_left
        · intro w hSw
          (try dsimp only at hSw)
          go_simp
          all_goals with_reducible rfl
        try simp only [Act.put, List.setIfInBounds_toArray, List.set_cons_zero, List.set_cons_succ]
        refine wpAnyH_take (i := 8) (oi := oprtv6) (v := ?_) rfl (by kernel_rfl) (by kernel_rfl) (by kernel_rfl) (fun _ _ _ h => h) (Or.inl ⟨by rfl, ?_⟩) (by assumption) ?_
        rotate_left
        · intro w hSw
          (try dsimp only at hSw)
          go_simp
          all_goals with_reducible rfl
        try simp only [Act.put, List.setIfInBounds_toArray, List.set_cons_zero, List.set_cons_succ]
        refine wpAnyH_ready (rs := [9, 10]) (by kernel_rfl) (by simp) ?_
        refine AllReadyH.cons (o := oprtv12) rfl (fun KK hKK => ?_) ?_
        ·
          have kk2 := (Kept.refl X1).alloc (.cells #[.bool false, .slice none 0 0, .slice none 0 0, .slice none 0 0] 121)
          have J2 := J1.trans kk2
          have hn2 := heap_alloc_new X1 (.cells #[.bool false, .slice none 0 0, .slice none 0 0, .slice none 0 0] 121)
          have sz2 := J1.size
          have OK2 := OK1.kept kk2
          have OV2 := OV1.kept kk2
          go_simp
          refine hKK.out _ _ ?_ (fun hHeld => ?_)
          · (try dsimp only)
            exact HSA.out _ J2
          clear hKK KK
          try simp only [Act.put, List.setIfInBounds_toArray, List.set_cons_zero, List.set_cons_succ]
          refine wpAnyH_ready (rs := [10]) (by kernel_rfl) (by simp) ?_
          refine AllReadyH.cons (o := oprtv13) rfl (fun KK hKK => ?_) ?_
          ·
            clear kk2
            generalize X1.alloc (.cells #[.bool false, .slice none 0 0, .slice none 0 0, .slice none 0 0] 121) = X2 at *
            have kk3 := (Kept.refl X2).alloc (.cells #[.string ⟨#[]⟩, .int .i64 0, .int .i64 0] 77)
            have J3 := J2.trans kk3
            have hn3 := heap_alloc_new X2 (.cells #[.string ⟨#[]⟩, .int .i64 0, .int .i64 0] 77)
            have sz3 := J2.size
            have hA3 := kk3.block hn2
            have OK3 := OK2.kept kk3
            have OV3 := OV2.kept kk3
            go_simp
            refine hKK.out _ _ ?_ (fun hHeld => ?_)
            · (try dsimp only)
              exact HSA.out _ J3
            clear hKK KK
            try simp only [Act.put, List.setIfInBounds_toArray, List.set_cons_zero, List.set_cons_succ]
            refine wpAnyH_ready (rs := [11]) (by kernel_rfl) (by simp) ?_
            refine AllReadyH.cons (o := oprtv1) rfl (fun KK hKK => ?_) ?_
            ·
              clear kk3
              generalize X2.alloc (.cells #[.string ⟨#[]⟩, .int .i64 0, .int .i64 0] 77) = X3 at *
              obtain ⟨⟨g0, f0⟩, ⟨g1, f1⟩, ⟨g2, f2⟩, ⟨g3, f3⟩, hf9⟩ := N.ready4 hA3 (.bool true) (.slice kp9 mm kc9) (.slice vp9 mm vc9) (.slice none 0 0)
              go_simp
              refine hKK.out _ _ ?_ (fun hHeld => ?_)
              · (try dsimp only)
                exact HSA.out _ (J3.st4 sz2 _ _ _ _)
              clear hKK KK
              try simp only [Act.put, List.setIfInBounds_toArray, List.set_cons_zero, List.set_cons_succ]
              refine wpAnyH_ready (rs := [12]) (by kernel_rfl) (by simp) ?_
              refine AllReadyH.cons (o := oprtv0) rfl (fun KK hKK => ?_) ?_
              ·
                have hz9 := (N.others4 X3 (show X2.heap.size ≠ X1.heap.size from fun e => by rw [e] at hn3; rw [hA3] at hn3; cases hn3) (.bool true) (.slice kp9 mm kc9) (.slice vp9 mm vc9) (.slice none 0 0)).trans hn3
                obtain ⟨⟨p0, r0⟩, ⟨p1, r1⟩, ⟨p2, r2⟩, hf10⟩ := N.ready3 hz9 (.string old.d) (.int .i64 old.p) (.int .i64 old.l)
                go_simp
                refine hKK.out _ _ ?_ (fun hHeld => ?_)
                · (try dsimp only)
                  exact HSA.out _ ((J3.st4 sz2 _ _ _ _).st3 sz3 _ _ _)
                clear hKK KK
                try simp only [Act.put, List.setIfInBounds_toArray, List.set_cons_zero, List.set_cons_succ]
                refine wpAnyH_take (i := 13) (oi := oprtv2) (v := ?_) rfl (by kernel_rfl) (by kernel_rfl) (by kernel_rfl) (fun _ _ _ h => h) (Or.inl ⟨by rfl, ?_⟩) (by assumption) ?_
                rotate_left
                · intro w hSw
                  (try dsimp only at hSw)
                  go_simp
                  all_goals with_reducible rfl
                try simp only [Act.put, List.setIfInBounds_toArray, List.set_cons_zero, List.set_cons_succ]
                refine wpAnyH_done (by kernel_rfl) ?_ _
                have pc := pc_of (old := old) (ib := ib) hA3 hn3 OK3 OV3 (.inr (fun b off ph e => Nat.ne_of_lt (own_nlt OV2 e))) J3 sz2 sz3
                go_wp2_with fail
                go_meet
                exact pc
              exact AllReadyH.nil
            exact AllReadyH.nil
          exact AllReadyH.nil
        refine AllReadyH.cons (o := oprtv13) rfl (fun KK hKK => ?_) ?_
        ·
          have kk2 := (Kept.refl X1).alloc (.cells #[.string ⟨#[]⟩, .int .i64 0, .int .i64 0] 77)
          have J2 := J1.trans kk2
          have hn2 := heap_alloc_new X1 (.cells #[.string ⟨#[]⟩, .int .i64 0, .int .i64 0] 77)
          have sz2 := J1.size
          have OK2 := OK1.kept kk2
          have OV2 := OV1.kept kk2
          go_simp
          refine hKK.out _ _ ?_ (fun hHeld => ?_)
          · (try dsimp only)
            exact HSA.out _ J2
          clear hKK KK
          try simp only [Act.put, List.setIfInBounds_toArray, List.set_cons_zero, List.set_cons_succ]
          refine wpAnyH_ready (rs := [9]) (by kernel_rfl) (by simp) ?_
          refine AllReadyH.cons (o := oprtv12) rfl (fun KK hKK => ?_) ?_
          ·
            clear kk2
            generalize X1.alloc (.cells #[.string ⟨#[]⟩, .int .i64 0, .int .i64 0] 77) = X2 at *
            have kk3 := (Kept.refl X2).alloc (.cells #[.bool false, .slice none 0 0, .slice none 0 0, .slice none 0 0] 121)
            have J3 := J2.trans kk3
            have hn3 := heap_alloc_new X2 (.cells #[.bool false, .slice none 0 0, .slice none 0 0, .slice none 0 0] 121)
            have sz3 := J2.size
            have hZ3 := kk3.block hn2
            have OK3 := OK2.kept kk3
            have OV3 := OV2.kept kk3
            go_simp
            refine hKK.out _ _ ?_ (fun hHeld => ?_)
            · (try dsimp only)
              exact HSA.out _ J3
            clear hKK KK
            try simp only [Act.put, List.setIfInBounds_toArray, List.set_cons_zero, List.set_cons_succ]
            refine wpAnyH_ready (rs := [11]) (by kernel_rfl) (by simp) ?_
            refine AllReadyH.cons (o := oprtv1) rfl (fun KK hKK => ?_) ?_
            ·
              clear kk3
              generalize X2.alloc (.cells #[.bool false, .slice none 0 0, .slice none 0 0, .slice none 0 0] 121) = X3 at *
              obtain ⟨⟨g0, f0⟩, ⟨g1, f1⟩, ⟨g2, f2⟩, ⟨g3, f3⟩, hf9⟩ := N.ready4 hn3 (.bool true) (.slice kp9 mm kc9) (.slice vp9 mm vc9) (.slice none 0 0)
              go_simp
              refine hKK.out _ _ ?_ (fun hHeld => ?_)
              · (try dsimp only)
                exact HSA.out _ (J3.st4 sz3 _ _ _ _)
              clear hKK KK
              try simp only [Act.put, List.setIfInBounds_toArray, List.set_cons_zero, List.set_cons_succ]
              refine wpAnyH_ready (rs := [12]) (by kernel_rfl) (by simp) ?_
              refine AllReadyH.cons (o := oprtv0) rfl (fun KK hKK => ?_) ?_
              ·
                have hz9 := (N.others4 X3 (show X1.heap.size ≠ X2.heap.size from fun e => by rw [e] at hZ3; rw [hn3] at hZ3; cases hZ3) (.bool true) (.slice kp9 mm kc9) (.slice vp9 mm vc9) (.slice none 0 0)).trans hZ3
                obtain ⟨⟨p0, r0⟩, ⟨p1, r1⟩, ⟨p2, r2⟩, hf10⟩ := N.ready3 hz9 (.string old.d) (.int .i64 old.p) (.int .i64 old.l)
                go_simp
                refine hKK.out _ _ ?_ (fun hHeld => ?_)
                · (try dsimp only)
                  exact HSA.out _ ((J3.st4 sz3 _ _ _ _).st3 sz2 _ _ _)
                clear hKK KK
                try simp only [Act.put, List.setIfInBounds_toArray, List.set_cons_zero, List.set_cons_succ]
                refine wpAnyH_take (i := 13) (oi := oprtv2) (v := ?_) rfl (by kernel_rfl) (by kernel_rfl) (by kernel_rfl) (fun _ _ _ h => h) (Or.inl ⟨by rfl, ?_⟩) (by assumption) ?_
                rotate_left
                · intro w hSw
                  (try dsimp only at hSw)
                  go_simp
                  all_goals with_reducible rfl
                try simp only [Act.put, List.setIfInBounds_toArray, List.set_cons_zero, List.set_cons_succ]
                refine wpAnyH_done (by kernel_rfl) ?_ _
                have pc := pc_of (old := old) (ib := ib) hn3 hZ3 OK3 OV3 (.inr (fun b off ph e => Nat.ne_of_lt (own_nlt OV1 e))) J3 sz3 sz2
                go_wp2_with fail
                go_meet
                exact pc
              exact AllReadyH.nil
            exact AllReadyH.nil
          exact AllReadyH.nil
        exact AllReadyH.nil
      refine AllReadyH.cons (o := oprtv12) rfl (fun KK hKK => ?_) ?_
      ·
        have kk1 := (Kept.refl X0).alloc (.cells #[.bool false, .slice none 0 0, .slice none 0 0, .slice none 0 0] 121)
        have J1 := J0.trans kk1
        have hn1 := heap_alloc_new X0 (.cells #[.bool false, .slice none 0 0, .slice none 0 0, .slice none 0 0] 121)
        have sz1 := J0.size
        go_simp
        refine hKK.out _ _ ?_ (fun hHeld => ?_)
        · (try dsimp only)
          exact HSA.out _ J1
        clear hKK KK
        try simp only [Act.put, List.setIfInBounds_toArray, List.set_cons_zero, List.set_cons_succ]
        refine wpAnyH_ready (rs := [4, 10]) (by kernel_rfl) (by simp) ?_
        refine AllReadyH.cons (o := oprtv3) rfl (fun KK hKK => ?_) ?_
        ·
          clear kk1
          generalize X0.alloc (.cells #[.bool false, .slice none 0 0, .slice none 0 0, .slice none 0 0] 121) = X1 at *
          go_simp
          go_at_call 93
          (with_reducible refine (HW.out.f4 _ J1).mono ?_)
          rintro e X2 ⟨kp9, mm, kc9, vp9, vc9, rfl, OK2, OV2, kk2⟩
          have J2 := J1.trans kk2
          have hA2 := kk2.block hn1
          go_wp2_with fail
          refine hKK.out _ _ ?_ (fun hHeld => ?_)
          · (try dsimp only)
            exact HSA.out _ J2
          clear hKK KK
          try simp only [Act.put, List.setIfInBounds_toArray, List.set_cons_zero, List.set_cons_succ]
          refine wpAnyH_take (i := 5) (oi := oprtv8) (v := ?_) rfl (by kernel_rfl) (by kernel_rfl) (by kernel_rfl) (fun _ _ _ h => h) (Or.inl ⟨by rfl, ?_⟩) (by assumption) ?_
          rotate_left
          · intro w hSw
            (try dsimp only at hSw)
            go_simp
            all_goals with_reducible rfl
          try simp only [Act.put, List.setIfInBounds_toArray, List.set_cons_zero, List.set_cons_succ]
          refine wpAnyH_take (i := 6) (oi := oprtv7) (v := ?_) rfl (by kernel_rfl) (by kernel_rfl) (by kernel_rfl) (fun _ _ _ h => h) (Or.inl ⟨by rfl, ?_⟩) (by assumption) ?_
          rotate_left
          · intro w hSw
            (try dsimp only at hSw)
            go_simp
            all_goals with_reducible rfl
          try simp only [Act.put, List.setIfInBounds_toArray, List.set_cons_zero, List.set_cons_succ]
          refine wpAnyH_take (i := 7) (oi := oprtv5) (v := ?_) rfl (by kernel_rfl) (by kernel_rfl) (by kernel_rfl) (fun _ _ _ h => h) (Or.inl ⟨by rfl, ?_⟩) (by assumption) ?_
          rotate_left
          · intro w hSw
            (try dsimp only at hSw)
            go_simp
            all_goals with_reducible rfl
          try simp only [Act.put, List.setIfInBounds_toArray, List.set_cons_zero, List.set_cons_succ]
          refine wpAnyH_take (i := 8) (oi := oprtv6) (v := ?_) rfl (by kernel_rfl) (by kernel_rfl) (by kernel_rfl) (fun _ _ _ h => h) (Or.inl ⟨by rfl, ?_⟩) (by assumption) ?_
          rotate_left
          · intro w hSw
            (try dsimp only at hSw)
            go_simp
            all_goals with_reducible rfl
          try simp only [Act.put, List.setIfInBounds_toArray, List.set_cons_zero, List.set_cons_succ]
          refine wpAnyH_ready (rs := [10]) (by kernel_rfl) (by simp) ?_
          refine AllReadyH.cons (o := oprtv13) rfl (fun KK hKK => ?_) ?_
          ·
            have kk3 := (Kept.refl X2).alloc (.cells #[.string ⟨#[]⟩, .int .i64 0, .int .i64 0] 77)
            have J3 := J2.trans kk3
            have hn3 := heap_alloc_new X2 (.cells #[.string ⟨#[]⟩, .int .i64 0, .int .i64 0] 77)
            have sz3 := J2.size
            have hA3 := kk3.block hA2
            have OK3 := OK2.kept kk3
            have OV3 := OV2.kept kk3
            go_simp
            refine hKK.out _ _ ?_ (fun hHeld => ?_)
            · (try dsimp only)
              exact HSA.out _ J3
            clear hKK KK
            try simp only [Act.put, List.setIfInBounds_toArray, List.set_cons_zero, List.set_cons_succ]
            refine wpAnyH_ready (rs := [11]) (by kernel_rfl) (by simp) ?_
            refine AllReadyH.cons (o := oprtv1) rfl (fun KK hKK => ?_) ?_
            ·
              clear kk3
              generalize X2.alloc (.cells #[.string ⟨#[]⟩, .int .i64 0, .int .i64 0] 77) = X3 at *
              obtain ⟨⟨g0, f0⟩, ⟨g1, f1⟩, ⟨g2, f2⟩, ⟨g3, f3⟩, hf9⟩ := N.ready4 hA3 (.bool true) (.slice kp9 mm kc9) (.slice vp9 mm vc9) (.slice none 0 0)
              go_simp
              refine hKK.out _ _ ?_ (fun hHeld => ?_)
              · (try dsimp only)
                exact HSA.out _ (J3.st4 sz1 _ _ _ _)
              clear hKK KK
              try simp only [Act.put, List.setIfInBounds_toArray, List.set_cons_zero, List.set_cons_succ]
              refine wpAnyH_ready (rs := [12]) (by kernel_rfl) (by simp) ?_
              refine AllReadyH.cons (o := oprtv0) rfl (fun KK hKK => ?_) ?_
              ·
                have hz9 := (N.others4 X3 (show X2.heap.size ≠ X0.heap.size from fun e => by rw [e] at hn3; rw [hA3] at hn3; cases hn3) (.bool true) (.slice kp9 mm kc9) (.slice vp9 mm vc9) (.slice none 0 0)).trans hn3
                obtain ⟨⟨p0, r0⟩, ⟨p1, r1⟩, ⟨p2, r2⟩, hf10⟩ := N.ready3 hz9 (.string old.d) (.int .i64 old.p) (.int .i64 old.l)
                go_simp
                refine hKK.out _ _ ?_ (fun hHeld => ?_)
                · (try dsimp only)
                  exact HSA.out _ ((J3.st4 sz1 _ _ _ _).st3 sz3 _ _ _)
                clear hKK KK
                try simp only [Act.put, List.setIfInBounds_toArray, List.set_cons_zero, List.set_cons_succ]
                refine wpAnyH_take (i := 13) (oi := oprtv2) (v := ?_) rfl (by kernel_rfl) (by kernel_rfl) (by kernel_rfl) (fun _ _ _ h => h) (Or.inl ⟨by rfl, ?_⟩) (by assumption) ?_
                rotate_left
                · intro w hSw
                  (try dsimp only at hSw)
                  go_simp
                  all_goals with_reducible rfl
                try simp only [Act.put, List.setIfInBounds_toArray, List.set_cons_zero, List.set_cons_succ]
                refine wpAnyH_done (by kernel_rfl) ?_ _
                have pc := pc_of (old := old) (ib := ib) hA3 hn3 OK3 OV3 (.inr (fun b off ph e => Nat.ne_of_lt (own_nlt OV2 e))) J3 sz1 sz3
                go_wp2_with fail
                go_meet
                exact pc
              exact AllReadyH.nil
            exact AllReadyH.nil
          exact AllReadyH.nil
        refine AllReadyH.cons (o := oprtv13) rfl (fun KK hKK => ?_) ?_
        ·
          clear kk1
          generalize X0.alloc (.cells #[.bool false, .slice none 0 0, .slice none 0 0, .slice none 0 0] 121) = X1 at *
          have kk2 := (Kept.refl X1).alloc (.cells #[.string ⟨#[]⟩, .int .i64 0, .int .i64 0] 77)
          have J2 := J1.trans kk2
          have hn2 := heap_alloc_new X1 (.cells #[.string ⟨#[]⟩, .int .i64 0, .int .i64 0] 77)
          have sz2 := J1.size
          have hA2 := kk2.block hn1
          go_simp
          refine hKK.out _ _ ?_ (fun hHeld => ?_)
          · (try dsimp only)
            exact HSA.out _ J2
          clear hKK KK
          try simp only [Act.put, List.setIfInBounds_toArray, List.set_cons_zero, List.set_cons_succ]
          refine wpAnyH_ready (rs := [4]) (by kernel_rfl) (by simp) ?_
          refine AllReadyH.cons (o := oprtv3) rfl (fun KK hKK => ?_) ?_
          ·
            clear kk2
            generalize X1.alloc (.cells #[.string ⟨#[]⟩, .int .i64 0, .int .i64 0] 77) = X2 at *
            go_simp
            go_at_call 93
            (with_reducible refine (HW.out.f4 _ J2).mono ?_)
            rintro e X3 ⟨kp9, mm, kc9, vp9, vc9, rfl, OK3, OV3, kk3⟩
            have J3 := J2.trans kk3
            have hA3 := kk3.block hA2
            have hZ3 := kk3.block hn2
            go_wp2_with fail
            refine hKK.out _ _ ?_ (fun hHeld => ?_)
            · (try dsimp only)
              exact HSA.out _ J3
            clear hKK KK
            try simp only [Act.put, List.setIfInBounds_toArray, List.set_cons_zero, List.set_cons_succ]
            refine wpAnyH_take (i := 5) (oi := oprtv8) (v := ?_) rfl (by kernel_rfl) (by kernel_rfl) (by kernel_rfl) (fun _ _ _ h => h) (Or.inl ⟨by rfl, ?_⟩) (by assumption) ?_
            rotate_left
            · intro w hSw
              (try dsimp only at hSw)
              go_simp
              all_goals with_reducible rfl
            try simp only [Act.put, List.setIfInBounds_toArray, List.set_cons_zero, List.set_cons_succ]
            refine wpAnyH_take (i := 6) (oi := oprtv7) (v := ?_) rfl (by kernel_rfl) (by kernel_rfl) (by kernel_rfl) (fun _ _ _ h => h) (Or.inl ⟨by rfl, ?_⟩) (by assumption) ?_
            rotate_left
            · intro w hSw
              (try dsimp only at hSw)
              go_simp
              all_goals with_reducible rfl
            try simp only [Act.put, List.setIfInBounds_toArray, List.set_cons_zero, List.set_cons_succ]
            refine wpAnyH_take (i := 7) (oi := oprtv5) (v := ?_) rfl (by kernel_rfl) (by kernel_rfl) (by kernel_rfl) (fun _ _ _ h => h) (Or.inl ⟨by rfl, ?_⟩) (by assumption) ?_
            rotate_left
            · intro w hSw
              (try dsimp only at hSw)
              go_simp
              all_goals with_reducible rfl
            try simp only [Act.put, List.setIfInBounds_toArray, List.set_cons_zero, List.set_cons_succ]
            refine wpAnyH_take (i := 8) (oi := oprtv6) (v := ?_) rfl (by kernel_rfl) (by kernel_rfl) (by kernel_rfl) (fun _ _ _ h => h) (Or.inl ⟨by rfl, ?_⟩) (by assumption) ?_
            rotate_left
            · intro w hSw
              (try dsimp only at hSw)
              go_simp
              all_goals with_reducible rfl
            try simp only [Act.put, List.setIfInBounds_toArray, List.set_cons_zero, List.set_cons_succ]
            refine wpAnyH_ready (rs := [11]) (by kernel_rfl) (by simp) ?_
            refine AllReadyH.cons (o := oprtv1) rfl (fun KK hKK => ?_) ?_
            ·
              obtain ⟨⟨g0, f0⟩, ⟨g1, f1⟩, ⟨g2, f2⟩, ⟨g3, f3⟩, hf9⟩ := N.ready4 hA3 (.bool true) (.slice kp9 mm kc9) (.slice vp9 mm vc9) (.slice none 0 0)
              go_simp
              refine hKK.out _ _ ?_ (fun hHeld => ?_)
              · (try dsimp only)
                exact HSA.out _ (J3.st4 sz1 _ _ _ _)
              clear hKK KK
              try simp only [Act.put, List.setIfInBounds_toArray, List.set_cons_zero, List.set_cons_succ]
              refine wpAnyH_ready (rs := [12]) (by kernel_rfl) (by simp) ?_
              refine AllReadyH.cons (o := oprtv0) rfl (fun KK hKK => ?_) ?_
              ·
                have hz9 := (N.others4 X3 (show X1.heap.size ≠ X0.heap.size from fun e => by rw [e] at hZ3; rw [hA3] at hZ3; cases hZ3) (.bool true) (.slice kp9 mm kc9) (.slice vp9 mm vc9) (.slice none 0 0)).trans hZ3
                obtain ⟨⟨p0, r0⟩, ⟨p1, r1⟩, ⟨p2, r2⟩, hf10⟩ := N.ready3 hz9 (.string old.d) (.int .i64 old.p) (.int .i64 old.l)
                go_simp
                refine hKK.out _ _ ?_ (fun hHeld => ?_)
                · (try dsimp only)
                  exact HSA.out _ ((J3.st4 sz1 _ _ _ _).st3 sz2 _ _ _)
                clear hKK KK
                try simp only [Act.put, List.setIfInBounds_toArray, List.set_cons_zero, List.set_cons_succ]
                refine wpAnyH_take (i := 13) (oi := oprtv2) (v := ?_) rfl (by kernel_rfl) (by kernel_rfl) (by kernel_rfl) (fun _ _ _ h => h) (Or.inl ⟨by rfl, ?_⟩) (by assumption) ?_
                rotate_left
                · intro w hSw
                  (try dsimp only at hSw)
                  go_simp
                  all_goals with_reducible rfl
                try simp only [Act.put, List.setIfInBounds_toArray, List.set_cons_zero, List.set_cons_succ]
                refine wpAnyH_done (by kernel_rfl) ?_ _
                have pc := pc_of (old := old) (ib := ib) hA3 hZ3 OK3 OV3 (.inl ((Array.getElem?_eq_some_iff.1 hn2).1)) J3 sz1 sz2
                go_wp2_with fail
                go_meet
                exact pc
              exact AllReadyH.nil
            exact AllReadyH.nil
          exact AllReadyH.nil
        exact AllReadyH.nil
      refine AllReadyH.cons (o := oprtv13) rfl (fun KK hKK => ?_) ?_
      ·
        have kk1 := (Kept.refl X0).alloc (.cells #[.string ⟨#[]⟩, .int .i64 0, .int .i64 0] 77)
        have J1 := J0.trans kk1
        have hn1 := heap_alloc_new X0 (.cells #[.string ⟨#[]⟩, .int .i64 0, .int .i64 0] 77)
        have sz1 := J0.size
        go_simp
        refine hKK.out _ _ ?_ (fun hHeld => ?_)
        · (try dsimp only)
          exact HSA.out _ J1
        clear hKK KK
        try simp only [Act.put, List.setIfInBounds_toArray, List.set_cons_zero, List.set_cons_succ]
        refine wpAnyH_ready (rs := [4, 9]) (by kernel_rfl) (by simp) ?_
        refine AllReadyH.cons (o := oprtv3) rfl (fun KK hKK => ?_) ?_
        ·
          clear kk1
          generalize X0.alloc (.cells #[.string ⟨#[]⟩, .int .i64 0, .int .i64 0] 77) = X1 at *
          go_simp
          go_at_call 93
          (with_reducible refine (HW.out.f4 _ J1).mono ?_)
          rintro e X2 ⟨kp9, mm, kc9, vp9, vc9, rfl, OK2, OV2, kk2⟩
          have J2 := J1.trans kk2
          have hZ2 := kk2.block hn1
          go_wp2_with fail
          refine hKK.out _ _ ?_ (fun hHeld => ?_)
          · (try dsimp only)
            exact HSA.out _ J2
          clear hKK KK
          try simp only [Act.put, List.setIfInBounds_toArray, List.set_cons_zero, List.set_cons_succ]
          refine wpAnyH_take (i := 5) (oi := oprtv8) (v := ?_) rfl (by kernel_rfl) (by kernel_rfl) (by kernel_rfl) (fun _ _ _ h => h) (Or.inl ⟨by rfl, ?_⟩) (by assumption) ?_
          rotate_left
          · intro w hSw
            (try dsimp only at hSw)
            go_simp
            all_goals with_reducible rfl
          try simp only [Act.put, List.setIfInBounds_toArray, List.set_cons_zero, List.set_cons_succ]
          refine wpAnyH_take (i := 6) (oi := oprtv7) (v := ?_) rfl (by kernel_rfl) (by kernel_rfl) (by kernel_rfl) (fun _ _ _ h => h) (Or.inl ⟨by rfl, ?_⟩) (by assumption) ?_
          rotate_left
          · intro w hSw
            (try dsimp only at hSw)
            go_simp
            all_goals with_reducible rfl
          try simp only [Act.put, List.setIfInBounds_toArray, List.set_cons_zero, List.set_cons_succ]
          refine wpAnyH_take (i := 7) (oi := oprtv5) (v := ?_) rfl (by kernel_rfl) (by kernel_rfl) (by kernel_rfl) (fun _ _ _ h => h) (Or.inl ⟨by rfl, ?_⟩) (by assumption) ?_
          rotate_left
          · intro w hSw
            (try dsimp only at hSw)
            go_simp
            all_goals with_reducible rfl
          try simp only [Act.put, List.setIfInBounds_toArray, List.set_cons_zero, List.set_cons_succ]
          refine wpAnyH_take (i := 8) (oi := oprtv6) (v := ?_) rfl (by kernel_rfl) (by kernel_rfl) (by kernel_rfl) (fun _ _ _ h => h) (Or.inl ⟨by rfl, ?_⟩) (by assumption) ?_
          rotate_left
          · intro w hSw
            (try dsimp only at hSw)
            go_simp
            all_goals with_reducible rfl
          try simp only [Act.put, List.setIfInBounds_toArray, List.set_cons_zero, List.set_cons_succ]
          refine wpAnyH_ready (rs := [9]) (by kernel_rfl) (by simp) ?_
          refine AllReadyH.cons (o := oprtv12) rfl (fun KK hKK => ?_) ?_
          ·
            have kk3 := (Kept.refl X2).alloc (.cells #[.bool false, .slice none 0 0, .slice none 0 0, .slice none 0 0] 121)
            have J3 := J2.trans kk3
            have hn3 := heap_alloc_new X2 (.cells #[.bool false, .slice none 0 0, .slice none 0 0, .slice none 0 0] 121)
            have sz3 := J2.size
            have hZ3 := kk3.block hZ2
            have OK3 := OK2.kept kk3
            have OV3 := OV2.kept kk3
            go_simp
            refine hKK.out _ _ ?_ (fun hHeld => ?_)
            · (try dsimp only)
              exact HSA.out _ J3
            clear hKK KK
            try simp only [Act.put, List.setIfInBounds_toArray, List.set_cons_zero, List.set_cons_succ]
            refine wpAnyH_ready (rs := [11]) (by kernel_rfl) (by simp) ?_
            refine AllReadyH.cons (o := oprtv1) rfl (fun KK hKK => ?_) ?_
            ·
              clear kk3
              generalize X2.alloc (.cells #[.bool false, .slice none 0 0, .slice none 0 0, .slice none 0 0] 121) = X3 at *
              obtain ⟨⟨g0, f0⟩, ⟨g1, f1⟩, ⟨g2, f2⟩, ⟨g3, f3⟩, hf9⟩ := N.ready4 hn3 (.bool true) (.slice kp9 mm kc9) (.slice vp9 mm vc9) (.slice none 0 0)
              go_simp
              refine hKK.out _ _ ?_ (fun hHeld => ?_)
              · (try dsimp only)
                exact HSA.out _ (J3.st4 sz3 _ _ _ _)
              clear hKK KK
              try simp only [Act.put, List.setIfInBounds_toArray, List.set_cons_zero, List.set_cons_succ]
              refine wpAnyH_ready (rs := [12]) (by kernel_rfl) (by simp) ?_
              refine AllReadyH.cons (o := oprtv0) rfl (fun KK hKK => ?_) ?_
              ·
                have hz9 := (N.others4 X3 (show X0.heap.size ≠ X2.heap.size from fun e => by rw [e] at hZ3; rw [hn3] at hZ3; cases hZ3) (.bool true) (.slice kp9 mm kc9) (.slice vp9 mm vc9) (.slice none 0 0)).trans hZ3
                obtain ⟨⟨p0, r0⟩, ⟨p1, r1⟩, ⟨p2, r2⟩, hf10⟩ := N.ready3 hz9 (.string old.d) (.int .i64 old.p) (.int .i64 old.l)
                go_simp
                refine hKK.out _ _ ?_ (fun hHeld => ?_)
                · (try dsimp only)
                  exact HSA.out _ ((J3.st4 sz3 _ _ _ _).st3 sz1 _ _ _)
                clear hKK KK
                try simp only [Act.put, List.setIfInBounds_toArray, List.set_cons_zero, List.set_cons_succ]
                refine wpAnyH_take (i := 13) (oi := oprtv2) (v := ?_) rfl (by kernel_rfl) (by kernel_rfl) (by kernel_rfl) (fun _ _ _ h => h) (Or.inl ⟨by rfl, ?_⟩) (by assumption) ?_
                rotate_left
                · intro w hSw
                  (try dsimp only at hSw)
                  go_simp
                  all_goals with_reducible rfl
                try simp only [Act.put, List.setIfInBounds_toArray, List.set_cons_zero, List.set_cons_succ]
                refine wpAnyH_done (by kernel_rfl) ?_ _
                have pc := pc_of (old := old) (ib := ib) hn3 hZ3 OK3 OV3 (.inl ((Array.getElem?_eq_some_iff.1 hn1).1)) J3 sz3 sz1
                go_wp2_with fail
                go_meet
                exact pc
              exact AllReadyH.nil
            exact AllReadyH.nil
          exact AllReadyH.nil
        refine AllReadyH.cons (o := oprtv12) rfl (fun KK hKK => ?_) ?_
        ·
          clear kk1
          generalize X0.alloc (.cells #[.string ⟨#[]⟩, .int .i64 0, .int .i64 0] 77) = X1 at *
          have kk2 := (Kept.refl X1).alloc (.cells #[.bool false, .slice none 0 0, .slice none 0 0, .slice none 0 0] 121)
          have J2 := J1.trans kk2
          have hn2 := heap_alloc_new X1 (.cells #[.bool false, .slice none 0 0, .slice none 0 0, .slice none 0 0] 121)
          have sz2 := J1.size
          have hZ2 := kk2.block hn1
          go_simp
          refine hKK.out _ _ ?_ (fun hHeld => ?_)
          · (try dsimp only)
            exact HSA.out _ J2
          clear hKK KK
          try simp only [Act.put, List.setIfInBounds_toArray, List.set_cons_zero, List.set_cons_succ]
          refine wpAnyH_ready (rs := [4]) (by kernel_rfl) (by simp) ?_
          refine AllReadyH.cons (o := oprtv3) rfl (fun KK hKK => ?_) ?_
          ·
            clear kk2
            generalize X1.alloc (.cells #[.bool false, .slice none 0 0, .slice none 0 0, .slice none 0 0] 121) = X2 at *
            go_simp
            go_at_call 93
            (with_reducible refine (HW.out.f4 _ J2).mono ?_)
            rintro e X3 ⟨kp9, mm, kc9, vp9, vc9, rfl, OK3, OV3, kk3⟩
            have J3 := J2.trans kk3
            have hA3 := kk3.block hn2
            have hZ3 := kk3.block hZ2
            go_wp2_with fail
            refine hKK.out _ _ ?_ (fun hHeld => ?_)
            · (try dsimp only)
              exact HSA.out _ J3
            clear hKK KK
            try simp only [Act.put, List.setIfInBounds_toArray, List.set_cons_zero, List.set_cons_succ]
            refine wpAnyH_take (i := 5) (oi := oprtv8) (v := ?_) rfl (by kernel_rfl) (by kernel_rfl) (by kernel_rfl) (fun _ _ _ h => h) (Or.inl ⟨by rfl, ?_⟩) (by assumption) ?_
            rotate_left
            · intro w hSw
              (try dsimp only at hSw)
              go_simp
              all_goals with_reducible rfl
            try simp only [Act.put, List.setIfInBounds_toArray, List.set_cons_zero, List.set_cons_succ]
            refine wpAnyH_take (i := 6) (oi := oprtv7) (v := ?_) rfl (by kernel_rfl) (by kernel_rfl) (by kernel_rfl) (fun _ _ _ h => h) (Or.inl ⟨by rfl, ?_⟩) (by assumption) ?_
            rotate_left
            · intro w hSw
              (try dsimp only at hSw)
              go_simp
              all_goals with_reducible rfl
            try simp only [Act.put, List.setIfInBounds_toArray, List.set_cons_zero, List.set_cons_succ]
            refine wpAnyH_take (i := 7) (oi := oprtv5) (v := ?_) rfl (by kernel_rfl) (by kernel_rfl) (by kernel_rfl) (fun _ _ _ h => h) (Or.inl ⟨by rfl, ?_⟩) (by assumption) ?_
            rotate_left
            · intro w hSw
              (try dsimp only at hSw)
              go_simp
              all_goals with_reducible rfl
            try simp only [Act.put, List.setIfInBounds_toArray, List.set_cons_zero, List.set_cons_succ]
            refine wpAnyH_take (i := 8) (oi := oprtv6) (v := ?_) rfl (by kernel_rfl) (by kernel_rfl) (by kernel_rfl) (fun _ _ _ h => h) (Or.inl ⟨by rfl, ?_⟩) (by assumption) ?_
            rotate_left
            · intro w hSw
              (try dsimp only at hSw)
              go_simp
              all_goals with_reducible rfl
            try simp only [Act.put, List.setIfInBounds_toArray, List.set_cons_zero, List.set_cons_succ]
            refine wpAnyH_ready (rs := [11]) (by kernel_rfl) (by simp) ?_
            refine AllReadyH.cons (o := oprtv1) rfl (fun KK hKK => ?_) ?_
            ·
              obtain ⟨⟨g0, f0⟩, ⟨g1, f1⟩, ⟨g2, f2⟩, ⟨g3, f3⟩, hf9⟩ := N.ready4 hA3 (.bool true) (.slice kp9 mm kc9) (.slice vp9 mm vc9) (.slice none 0 0)
              go_simp
              refine hKK.out _ _ ?_ (fun hHeld => ?_)
              · (try dsimp only)
                exact HSA.out _ (J3.st4 sz2 _ _ _ _)
              clear hKK KK
              try simp only [Act.put, List.setIfInBounds_toArray, List.set_cons_zero, List.set_cons_succ]
              refine wpAnyH_ready (rs := [12]) (by kernel_rfl) (by simp) ?_
              refine AllReadyH.cons (o := oprtv0) rfl (fun KK hKK => ?_) ?_
              ·
                have hz9 := (N.others4 X3 (show X0.heap.size ≠ X1.heap.size from fun e => by rw [e] at hZ3; rw [hA3] at hZ3; cases hZ3) (.bool true) (.slice kp9 mm kc9) (.slice vp9 mm vc9) (.slice none 0 0)).trans hZ3
                obtain ⟨⟨p0, r0⟩, ⟨p1, r1⟩, ⟨p2, r2⟩, hf10⟩ := N.ready3 hz9 (.string old.d) (.int .i64 old.p) (.int .i64 old.l)
                go_simp
                refine hKK.out _ _ ?_ (fun hHeld => ?_)
                · (try dsimp only)
                  exact HSA.out _ ((J3.st4 sz2 _ _ _ _).st3 sz1 _ _ _)
                clear hKK KK
                try simp only [Act.put, List.setIfInBounds_toArray, List.set_cons_zero, List.set_cons_succ]
                refine wpAnyH_take (i := 13) (oi := oprtv2) (v := ?_) rfl (by kernel_rfl) (by kernel_rfl) (by kernel_rfl) (fun _ _ _ h => h) (Or.inl ⟨by rfl, ?_⟩) (by assumption) ?_
                rotate_left
                · intro w hSw
                  (try dsimp only at hSw)
                  go_simp
                  all_goals with_reducible rfl
                try simp only [Act.put, List.setIfInBounds_toArray, List.set_cons_zero, List.set_cons_succ]
                refine wpAnyH_done (by kernel_rfl) ?_ _
                have pc := pc_of (old := old) (ib := ib) hA3 hZ3 OK3 OV3 (.inl ((Array.getElem?_eq_some_iff.1 hZ2).1)) J3 sz2 sz1
                go_wp2_with fail
                go_meet
                exact pc
              exact AllReadyH.nil
            exact AllReadyH.nil
          exact AllReadyH.nil
        exact AllReadyH.nil
      exact AllReadyH.nil
    refine AllReadyH.cons (o := oprtv12) rfl (fun KK hKK => ?_) ?_
    ·
      have kk0 := (Kept.refl X).alloc (.cells #[.bool false, .slice none 0 0, .slice none 0 0, .slice none 0 0] 121)
      have J0 := JI.trans kk0
      have hn0 := heap_alloc_new X (.cells #[.bool false, .slice none 0 0, .slice none 0 0, .slice none 0 0] 121)
      have sz0 := JI.size
      go_simp
      refine hKK.out _ _ ?_ (fun hHeld => ?_)
      · (try dsimp only)
        exact HSA.out _ J0
      clear hKK KK
      try simp only [Act.put, List.setIfInBounds_toArray, List.set_cons_zero, List.set_cons_succ]
      refine wpAnyH_ready (rs := [1, 10]) (by kernel_rfl) (by simp) ?_
      refine AllReadyH.cons (o := oprtv4) rfl (fun KK hKK => ?_) ?_
      ·
        clear kk0
        generalize X.alloc (.cells #[.bool false, .slice none 0 0, .slice none 0 0, .slice none 0 0] 121) = X0 at *
        go_simp
        go_at_call 63
        (with_reducible refine (HW.out.f3 _ J0).mono ?_)
        rintro e X1 ⟨rfl, kk1⟩
        have J1 := J0.trans kk1
        have hA1 := kk1.block hn0
        go_wp2_with fail
        refine hKK.out _ _ ?_ (fun hHeld => ?_)
        · (try dsimp only)
          exact HSA.out _ J1
        clear hKK KK
        try simp only [Act.put, List.setIfInBounds_toArray, List.set_cons_zero, List.set_cons_succ]
        refine wpAnyH_ready (rs := [4, 10]) (by kernel_rfl) (by simp) ?_
        refine AllReadyH.cons (o := oprtv3) rfl (fun KK hKK => ?_) ?_
        ·
          go_simp
          go_at_call 93
          (with_reducible refine (HW.out.f4 _ J1).mono ?_)
          rintro e X2 ⟨kp9, mm, kc9, vp9, vc9, rfl, OK2, OV2, kk2⟩
          have J2 := J1.trans kk2
          have hA2 := kk2.block hA1
          go_wp2_with fail
          refine hKK.out _ _ ?_ (fun hHeld => ?_)
          · (try dsimp only)
            exact HSA.out _ J2
          clear hKK KK
          try simp only [Act.put, List.setIfInBounds_toArray, List.set_cons_zero, List.set_cons_succ]
          refine wpAnyH_take (i := 5) (oi := oprtv8) (v := ?_) rfl (by kernel_rfl) (by kernel_rfl) (by kernel_rfl) (fun _ _ _ h => h) (Or.inl ⟨by rfl, ?_⟩) (by assumption) ?_
          rotate_left
          · intro w hSw
            (try dsimp only at hSw)
            go_simp
            all_goals with_reducible rfl
          try simp only [Act.put, List.setIfInBounds_toArray, List.set_cons_zero, List.set_cons_succ]
          refine wpAnyH_take (i := 6) (oi := oprtv7) (v := ?_) rfl (by kernel_rfl) (by kernel_rfl) (by kernel_rfl) (fun _ _ _ h => h) (Or.inl ⟨by rfl, ?_⟩) (by assumption) ?_
          rotate_left
          · intro w hSw
            (try dsimp only at hSw)
            go_simp
            all_goals with_reducible rfl
          try simp only [Act.put, List.setIfInBounds_toArray, List.set_cons_zero, List.set_cons_succ]
          refine wpAnyH_take (i := 7) (oi := oprtv5) (v := ?_) rfl (by kernel_rfl) (by kernel_rfl) (by kernel_rfl) (fun _ _ _ h => h) (Or.inl ⟨by rfl, ?_⟩) (by assumption) ?_
          rotate_left
          · intro w hSw
            (try dsimp only at hSw)
            go_simp
            all_goals with_reducible rfl
          try simp only [Act.put, List.setIfInBounds_toArray, List.set_cons_zero, List.set_cons_succ]
          refine wpAnyH_take (i := 8) (oi := oprtv6) (v := ?_) rfl (by kernel_rfl) (by kernel_rfl) (by kernel_rfl) (fun _ _ _ h => h) (Or.inl ⟨by rfl, ?_⟩) (by assumption) ?_
          rotate_left
          · intro w hSw
            (try dsimp only at hSw)
            go_simp
            all_goals with_reducible rfl
          try simp only [Act.put, List.setIfInBounds_toArray, List.set_cons_zero, List.set_cons_succ]
          refine wpAnyH_ready (rs := [10]) (by kernel_rfl) (by simp) ?_
          refine AllReadyH.cons (o := oprtv13) rfl (fun KK hKK => ?_) ?_
          ·
            have kk3 := (Kept.refl X2).alloc (.cells #[.string ⟨#[]⟩, .int .i64 0, .int .i64 0] 77)
            have J3 := J2.trans kk3
            have hn3 := heap_alloc_new X2 (.cells #[.string ⟨#[]⟩, .int .i64 0, .int .i64 0] 77)
            have sz3 := J2.size
            have hA3 := kk3.block hA2
            have OK3 := OK2.kept kk3
            have OV3 := OV2.kept kk3
            go_simp
            refine hKK.out _ _ ?_ (fun hHeld => ?_)
            · (try dsimp only)
              exact HSA.out _ J3
            clear hKK KK
            try simp only [Act.put, List.setIfInBounds_toArray, List.set_cons_zero, List.set_cons_succ]
            refine wpAnyH_ready (rs := [11]) (by kernel_rfl) (by simp) ?_
            refine AllReadyH.cons (o := oprtv1) rfl (fun KK hKK => ?_) ?_
            ·
              clear kk3
              generalize X2.alloc (.cells #[.string ⟨#[]⟩, .int .i64 0, .int .i64 0] 77) = X3 at *
              obtain ⟨⟨g0, f0⟩, ⟨g1, f1⟩, ⟨g2, f2⟩, ⟨g3, f3⟩, hf9⟩ := N.ready4 hA3 (.bool true) (.slice kp9 mm kc9) (.slice vp9 mm vc9) (.slice none 0 0)
              go_simp
              refine hKK.out _ _ ?_ (fun hHeld => ?_)
              · (try dsimp only)
                exact HSA.out _ (J3.st4 sz0 _ _ _ _)
              clear hKK KK
              try simp only [Act.put, List.setIfInBounds_toArray, List.set_cons_zero, List.set_cons_succ]
              refine wpAnyH_ready (rs := [12]) (by kernel_rfl) (by simp) ?_
              refine AllReadyH.cons (o := oprtv0) rfl (fun KK hKK => ?_) ?_
              ·
                have hz9 := (N.others4 X3 (show X2.heap.size ≠ X.heap.size from fun e => by rw [e] at hn3; rw [hA3] at hn3; cases hn3) (.bool true) (.slice kp9 mm kc9) (.slice vp9 mm vc9) (.slice none 0 0)).trans hn3
                obtain ⟨⟨p0, r0⟩, ⟨p1, r1⟩, ⟨p2, r2⟩, hf10⟩ := N.ready3 hz9 (.string old.d) (.int .i64 old.p) (.int .i64 old.l)
                go_simp
                refine hKK.out _ _ ?_ (fun hHeld => ?_)
                · (try dsimp only)
                  exact HSA.out _ ((J3.st4 sz0 _ _ _ _).st3 sz3 _ _ _)
                clear hKK KK
                try simp only [Act.put, List.setIfInBounds_toArray, List.set_cons_zero, List.set_cons_succ]
                refine wpAnyH_take (i := 13) (oi := oprtv2) (v := ?_) rfl (by kernel_rfl) (by kernel_rfl) (by kernel_rfl) (fun _ _ _ h => h) (Or.inl ⟨by rfl, ?_⟩) (by assumption) ?_
                rotate_left
                · intro w hSw
                  (try dsimp only at hSw)
                  go_simp
                  all_goals with_reducible rfl
                try simp only [Act.put, List.setIfInBounds_toArray, List.set_cons_zero, List.set_cons_succ]
                refine wpAnyH_done (by kernel_rfl) ?_ _
                have pc := pc_of (old := old) (ib := ib) hA3 hn3 OK3 OV3 (.inr (fun b off ph e => Nat.ne_of_lt (own_nlt OV2 e))) J3 sz0 sz3
                go_wp2_with fail
                go_meet
                exact pc
              exact AllReadyH.nil
            exact AllReadyH.nil
          exact AllReadyH.nil
        refine AllReadyH.cons (o := oprtv13) rfl (fun KK hKK => ?_) ?_
        ·
          have kk2 := (Kept.refl X1).alloc (.cells #[.string ⟨#[]⟩, .int .i64 0, .int .i64 0] 77)
          have J2 := J1.trans kk2
          have hn2 := heap_alloc_new X1 (.cells #[.string ⟨#[]⟩, .int .i64 0, .int .i64 0] 77)
          have sz2 := J1.size
          have hA2 := kk2.block hA1
          go_simp
          refine hKK.out _ _ ?_ (fun hHeld => ?_)
          · (try dsimp only)
            exact HSA.out _ J2
          clear hKK KK
          try simp only [Act.put, List.setIfInBounds_toArray, List.set_cons_zero, List.set_cons_succ]
          refine wpAnyH_ready (rs := [4]) (by kernel_rfl) (by simp) ?_
          refine AllReadyH.cons (o := oprtv3) rfl (fun KK hKK => ?_) ?_
          ·
            clear kk2
            generalize X1.alloc (.cells #[.string ⟨#[]⟩, .int .i64 0, .int .i64 0] 77) = X2 at *
            go_simp
            go_at_call 93
            (with_reducible refine (HW.out.f4 _ J2).mono ?_)
            rintro e X3 ⟨kp9, mm, kc9, vp9, vc9, rfl, OK3, OV3, kk3⟩
            have J3 := J2.trans kk3
            have hA3 := kk3.block hA2
            have hZ3 := kk3.block hn2
            go_wp2_with fail
            refine hKK.out _ _ ?_ (fun hHeld => ?_)
            · (try dsimp only)
              exact HSA.out _ J3
            clear hKK KK
            try simp only [Act.put, List.setIfInBounds_toArray, List.set_cons_zero, List.set_cons_succ]
            refine wpAnyH_take (i := 5) (oi := oprtv8) (v := ?_) rfl (by kernel_rfl) (by kernel_rfl) (by kernel_rfl) (fun _ _ _ h => h) (Or.inl ⟨by rfl, ?_⟩) (by assumption) ?_
            rotate_left
            · intro w hSw
              (try dsimp only at hSw)
              go_simp
              all_goals with_reducible rfl
            try simp only [Act.put, List.setIfInBounds_toArray, List.set_cons_zero, List.set_cons_succ]
            refine wpAnyH_take (i := 6) (oi := oprtv7) (v := ?_) rfl (by kernel_rfl) (by kernel_rfl) (by kernel_rfl) (fun _ _ _ h => h) (Or.inl ⟨by rfl, ?_⟩) (by assumption) ?_
            rotate_left
            · intro w hSw
              (try dsimp only at hSw)
              go_simp
              all_goals with_reducible rfl
            try simp only [Act.put, List.setIfInBounds_toArray, List.set_cons_zero, List.set_cons_succ]
            refine wpAnyH_take (i := 7) (oi := oprtv5) (v := ?_) rfl (by kernel_rfl) (by kernel_rfl) (by kernel_rfl) (fun _ _ _ h => h) (Or.inl ⟨by rfl, ?_⟩) (by assumption) ?_
            rotate_left
            · intro w hSw
              (try dsimp only at hSw)
              go_simp
              all_goals with_reducible rfl
            try simp only [Act.put, List.setIfInBounds_toArray, List.set_cons_zero, List.set_cons_succ]
            refine wpAnyH_take (i := 8) (oi := oprtv6) (v := ?_) rfl (by kernel_rfl) (by kernel_rfl) (by kernel_rfl) (fun _ _ _ h => h) (Or.inl ⟨by rfl, ?_⟩) (by assumption) ?_
            rotate_left
            · intro w hSw
              (try dsimp only at hSw)
              go_simp
              all_goals with_reducible rfl
            try simp only [Act.put, List.setIfInBounds_toArray, List.set_cons_zero, List.set_cons_succ]
            refine wpAnyH_ready (rs := [11]) (by kernel_rfl) (by simp) ?_
            refine AllReadyH.cons (o := oprtv1) rfl (fun KK hKK => ?_) ?_
            ·
              obtain ⟨⟨g0, f0⟩, ⟨g1, f1⟩, ⟨g2, f2⟩, ⟨g3, f3⟩, hf9⟩ := N.ready4 hA3 (.bool true) (.slice kp9 mm kc9) (.slice vp9 mm vc9) (.slice none 0 0)
              go_simp
              refine hKK.out _ _ ?_ (fun hHeld => ?_)
              · (try dsimp only)
                exact HSA.out _ (J3.st4 sz0 _ _ _ _)
              clear hKK KK
              try simp only [Act.put, List.setIfInBounds_toArray, List.set_cons_zero, List.set_cons_succ]
              refine wpAnyH_ready (rs := [12]) (by kernel_rfl) (by simp) ?_
              refine AllReadyH.cons (o := oprtv0) rfl (fun KK hKK => ?_) ?_
              ·
                have hz9 := (N.others4 X3 (show X1.heap.size ≠ X.heap.size from fun e => by rw [e] at hZ3; rw [hA3] at hZ3; cases hZ3) (.bool true) (.slice kp9 mm kc9) (.slice vp9 mm vc9) (.slice none 0 0)).trans hZ3
                obtain ⟨⟨p0, r0⟩, ⟨p1, r1⟩, ⟨p2, r2⟩, hf10⟩ := N.ready3 hz9 (.string old.d) (.int .i64 old.p) (.int .i64 old.l)
                go_simp
                refine hKK.out _ _ ?_ (fun hHeld => ?_)
                · (try dsimp only)
                  exact HSA.out _ ((J3.st4 sz0 _ _ _ _).st3 sz2 _ _ _)
                clear hKK KK
                try simp only [Act.put, List.setIfInBounds_toArray, List.set_cons_zero, List.set_cons_succ]
                refine wpAnyH_take (i := 13) (oi := oprtv2) (v := ?_) rfl (by kernel_rfl) (by kernel_rfl) (by kernel_rfl) (fun _ _ _ h => h) (Or.inl ⟨by rfl, ?_⟩) (by assumption) ?_
                rotate_left
                · intro w hSw
                  (try dsimp only at hSw)
                  go_simp
                  all_goals with_reducible rfl
                try simp only [Act.put, List.setIfInBounds_toArray, List.set_cons_zero, List.set_cons_succ]
                refine wpAnyH_done (by kernel_rfl) ?_ _
                have pc := pc_of (old := old) (ib := ib) hA3 hZ3 OK3 OV3 (.inl ((Array.getElem?_eq_some_iff.1 hn2).1)) J3 sz0 sz2
                go_wp2_with fail
                go_meet
                exact pc
              exact AllReadyH.nil
            exact AllReadyH.nil
          exact AllReadyH.nil
        exact AllReadyH.nil
      refine AllReadyH.cons (o := oprtv13) rfl (fun KK hKK => ?_) ?_
      ·
        clear kk0
        generalize X.alloc (.cells #[.bool false, .slice none 0 0, .slice none 0 0, .slice none 0 0] 121) = X0 at *
        have kk1 := (Kept.refl X0).alloc (.cells #[.string ⟨#[]⟩, .int .i64 0, .int .i64 0] 77)
        have J1 := J0.trans kk1
        have hn1 := heap_alloc_new X0 (.cells #[.string ⟨#[]⟩, .int .i64 0, .int .i64 0] 77)
        have sz1 := J0.size
        have hA1 := kk1.block hn0
        go_simp
        refine hKK.out _ _ ?_ (fun hHeld => ?_)
        · (try dsimp only)
          exact HSA.out _ J1
        clear hKK KK
        try simp only [Act.put, List.setIfInBounds_toArray, List.set_cons_zero, List.set_cons_succ]
        refine wpAnyH_ready (rs := [1]) (by kernel_rfl) (by simp) ?_
        refine AllReadyH.cons (o := oprtv4) rfl (fun KK hKK => ?_) ?_
        ·
          clear kk1
          generalize X0.alloc (.cells #[.string ⟨#[]⟩, .int .i64 0, .int .i64 0] 77) = X1 at *
          go_simp
          go_at_call 63
          (with_reducible refine (HW.out.f3 _ J1).mono ?_)
          rintro e X2 ⟨rfl, kk2⟩
          have J2 := J1.trans kk2
          have hA2 := kk2.block hA1
          have hZ2 := kk2.block hn1
          go_wp2_with fail
          refine hKK.out _ _ ?_ (fun hHeld => ?_)
          · (try dsimp only)
            exact HSA.out _ J2
          clear hKK KK
          try simp only [Act.put, List.setIfInBounds_toArray, List.set_cons_zero, List.set_cons_succ]
          refine wpAnyH_ready (rs := [4]) (by kernel_rfl) (by simp) ?_
          refine AllReadyH.cons (o := oprtv3) rfl (fun KK hKK => ?_) ?_
          ·
            go_simp
            go_at_call 93
            (with_reducible refine (HW.out.f4 _ J2).mono ?_)
            rintro e X3 ⟨kp9, mm, kc9, vp9, vc9, rfl, OK3, OV3, kk3⟩
            have J3 := J2.trans kk3
            have hA3 := kk3.block hA2
            have hZ3 := kk3.block hZ2
            go_wp2_with fail
            refine hKK.out _ _ ?_ (fun hHeld => ?_)
            · (try dsimp only)
              exact HSA.out _ J3
            clear hKK KK
            try simp only [Act.put, List.setIfInBounds_toArray, List.set_cons_zero, List.set_cons_succ]
            refine wpAnyH_take (i := 5) (oi := oprtv8) (v := ?_) rfl (by kernel_rfl) (by kernel_rfl) (by kernel_rfl) (fun _ _ _ h => h) (Or.inl ⟨by rfl, ?_⟩) (by assumption) ?_
            rotate_left
            · intro w hSw
              (try dsimp only at hSw)
              go_simp
              all_goals with_reducible rfl
            try simp only [Act.put, List.setIfInBounds_toArray, List.set_cons_zero, List.set_cons_succ]
            refine wpAnyH_take (i := 6) (oi := oprtv7) (v := ?_) rfl (by kernel_rfl) (by kernel_rfl) (by kernel_rfl) (fun _ _ _ h => h) (Or.inl ⟨by rfl, ?_⟩) (by assumption) ?_
            rotate_left
            · intro w hSw
              (try dsimp only at hSw)
              go_simp
              all_goals with_reducible rfl
            try simp only [Act.put, List.setIfInBounds_toArray, List.set_cons_zero, List.set_cons_succ]
            refine wpAnyH_take (i := 7) (oi := oprtv5) (v := ?_) rfl (by kernel_rfl) (by kernel_rfl) (by kernel_rfl) (fun _ _ _ h => h) (Or.inl ⟨by rfl, ?_⟩) (by assumption) ?_
            rotate_left
            · intro w hSw
              (try dsimp only at hSw)
              go_simp
              all_goals with_reducible rfl
            try simp only [Act.put, List.setIfInBounds_toArray, List.set_cons_zero, List.set_cons_succ]
            refine wpAnyH_take (i := 8) (oi := oprtv6) (v := ?_) rfl (by kernel_rfl) (by kernel_rfl) (by kernel_rfl) (fun _ _ _ h => h) (Or.inl ⟨by rfl, ?_⟩) (by assumption) ?_
            rotate_left
            · intro w hSw
              (try dsimp only at hSw)
              go_simp
              all_goals with_reducible rfl
            try simp only [Act.put, List.setIfInBounds_toArray, List.set_cons_zero, List.set_cons_succ]
            refine wpAnyH_ready (rs := [11]) (by kernel_rfl) (by simp) ?_
            refine AllReadyH.cons (o := oprtv1) rfl (fun KK hKK => ?_) ?_
            ·
              obtain ⟨⟨g0, f0⟩, ⟨g1, f1⟩, ⟨g2, f2⟩, ⟨g3, f3⟩, hf9⟩ := N.ready4 hA3 (.bool true) (.slice kp9 mm kc9) (.slice vp9 mm vc9) (.slice none 0 0)
              go_simp
              refine hKK.out _ _ ?_ (fun hHeld => ?_)
              · (try dsimp only)
                exact HSA.out _ (J3.st4 sz0 _ _ _ _)
              clear hKK KK
              try simp only [Act.put, List.setIfInBounds_toArray, List.set_cons_zero, List.set_cons_succ]
              refine wpAnyH_ready (rs := [12]) (by kernel_rfl) (by simp) ?_
              refine AllReadyH.cons (o := oprtv0) rfl (fun KK hKK => ?_) ?_
              ·
                have hz9 := (N.others4 X3 (show X0.heap.size ≠ X.heap.size from fun e => by rw [e] at hZ3; rw [hA3] at hZ3; cases hZ3) (.bool true) (.slice kp9 mm kc9) (.slice vp9 mm vc9) (.slice none 0 0)).trans hZ3
                obtain ⟨⟨p0, r0⟩, ⟨p1, r1⟩, ⟨p2, r2⟩, hf10⟩ := N.ready3 hz9 (.string old.d) (.int .i64 old.p) (.int .i64 old.l)
                go_simp
                refine hKK.out _ _ ?_ (fun hHeld => ?_)
                · (try dsimp only)
                  exact HSA.out _ ((J3.st4 sz0 _ _ _ _).st3 sz1 _ _ _)
                clear hKK KK
                try simp only [Act.put, List.setIfInBounds_toArray, List.set_cons_zero, List.set_cons_succ]
                refine wpAnyH_take (i := 13) (oi := oprtv2) (v := ?_) rfl (by kernel_rfl) (by kernel_rfl) (by kernel_rfl) (fun _ _ _ h => h) (Or.inl ⟨by rfl, ?_⟩) (by assumption) ?_
                rotate_left
                · intro w hSw
                  (try dsimp only at hSw)
                  go_simp
                  all_goals with_reducible rfl
                try simp only [Act.put, List.setIfInBounds_toArray, List.set_cons_zero, List.set_cons_succ]
                refine wpAnyH_done (by kernel_rfl) ?_ _
                have pc := pc_of (old := old) (ib := ib) hA3 hZ3 OK3 OV3 (.inl ((Array.getElem?_eq_some_iff.1 hZ2).1)) J3 sz0 sz1
                go_wp2_with fail
                go_meet
                exact pc
              exact AllReadyH.nil
            exact AllReadyH.nil
          exact AllReadyH.nil
        exact AllReadyH.nil
      exact AllReadyH.nil
    refine AllReadyH.cons (o := oprtv13) rfl (fun KK hKK => ?_) ?_
    ·
      have kk0 := (Kept.refl X).alloc (.cells #[.string ⟨#[]⟩, .int .i64 0, .int .i64 0] 77)
      have J0 := JI.trans kk0
      have hn0 := heap_alloc_new X (.cells #[.string ⟨#[]⟩, .int .i64 0, .int .i64 0] 77)
      have sz0 := JI.size
      go_simp
      refine hKK.out _ _ ?_ (fun hHeld => ?_)
      · (try dsimp only)
        exact HSA.out _ J0
      clear hKK KK
      try simp only [Act.put, List.setIfInBounds_toArray, List.set_cons_zero, List.set_cons_succ]
      refine wpAnyH_ready (rs := [1, 9]) (by kernel_rfl) (by simp) ?_
      refine AllReadyH.cons (o := oprtv4) rfl (fun KK hKK => ?_) ?_
      ·
        clear kk0
        generalize X.alloc (.cells #[.string ⟨#[]⟩, .int .i64 0, .int .i64 0] 77) = X0 at *
        go_simp
        go_at_call 63
        (with_reducible refine (HW.out.f3 _ J0).mono ?_)
        rintro e X1 ⟨rfl, kk1⟩
        have J1 := J0.trans kk1
        have hZ1 := kk1.block hn0
        go_wp2_with fail
        refine hKK.out _ _ ?_ (fun hHeld => ?_)
        · (try dsimp only)
          exact HSA.out _ J1
        clear hKK KK
        try simp only [Act.put, List.setIfInBounds_toArray, List.set_cons_zero, List.set_cons_succ]
        refine wpAnyH_ready (rs := [4, 9]) (by kernel_rfl) (by simp) ?_
        refine AllReadyH.cons (o := oprtv3) rfl (fun KK hKK => ?_) ?_
        ·
          go_simp
          go_at_call 93
          (with_reducible refine (HW.out.f4 _ J1).mono ?_)
          rintro e X2 ⟨kp9, mm, kc9, vp9, vc9, rfl, OK2, OV2, kk2⟩
          have J2 := J1.trans kk2
          have hZ2 := kk2.block hZ1
          go_wp2_with fail
          refine hKK.out _ _ ?_ (fun hHeld => ?_)
          · (try dsimp only)
            exact HSA.out _ J2
          clear hKK KK
          try simp only [Act.put, List.setIfInBounds_toArray, List.set_cons_zero, List.set_cons_succ]
          refine wpAnyH_take (i := 5) (oi := oprtv8) (v := ?_) rfl (by kernel_rfl) (by kernel_rfl) (by kernel_rfl) (fun _ _ _ h => h) (Or.inl ⟨by rfl, ?_⟩) (by assumption) ?_
          rotate_left
          · intro w hSw
            (try dsimp only at hSw)
            go_simp
            all_goals with_reducible rfl
          try simp only [Act.put, List.setIfInBounds_toArray, List.set_cons_zero, List.set_cons_succ]
          refine wpAnyH_take (i := 6) (oi := oprtv7) (v := ?_) rfl (by kernel_rfl) (by kernel_rfl) (by kernel_rfl) (fun _ _ _ h => h) (Or.inl ⟨by rfl, ?_⟩) (by assumption) ?_
          rotate_left
          · intro w hSw
            (try dsimp only at hSw)
            go_simp
            all_goals with_reducible rfl
          try simp only [Act.put, List.setIfInBounds_toArray, List.set_cons_zero, List.set_cons_succ]
          refine wpAnyH_take (i := 7) (oi := oprtv5) (v := ?_) rfl (by kernel_rfl) (by kernel_rfl) (by kernel_rfl) (fun _ _ _ h => h) (Or.inl ⟨by rfl, ?_⟩) (by assumption) ?_
          rotate_left
          · intro w hSw
            (try dsimp only at hSw)
            go_simp
            all_goals with_reducible rfl
          try simp only [Act.put, List.setIfInBounds_toArray, List.set_cons_zero, List.set_cons_succ]
          refine wpAnyH_take (i := 8) (oi := oprtv6) (v := ?_) rfl (by kernel_rfl) (by kernel_rfl) (by kernel_rfl) (fun _ _ _ h => h) (Or.inl ⟨by rfl, ?_⟩) (by assumption) ?_
          rotate_left
          · intro w hSw
            (try dsimp only at hSw)
            go_simp
            all_goals with_reducible rfl
          try simp only [Act.put, List.setIfInBounds_toArray, List.set_cons_zero, List.set_cons_succ]
          refine wpAnyH_ready (rs := [9]) (by kernel_rfl) (by simp) ?_
          refine AllReadyH.cons (o := oprtv12) rfl (fun KK hKK => ?_) ?_
          ·
            have kk3 := (Kept.refl X2).alloc (.cells #[.bool false, .slice none 0 0, .slice none 0 0, .slice none 0 0] 121)
            have J3 := J2.trans kk3
            have hn3 := heap_alloc_new X2 (.cells #[.bool false, .slice none 0 0, .slice none 0 0, .slice none 0 0] 121)
            have sz3 := J2.size
            have hZ3 := kk3.block hZ2
            have OK3 := OK2.kept kk3
            have OV3 := OV2.kept kk3
            go_simp
            refine hKK.out _ _ ?_ (fun hHeld => ?_)
            · (try dsimp only)
              exact HSA.out _ J3
            clear hKK KK
            try simp only [Act.put, List.setIfInBounds_toArray, List.set_cons_zero, List.set_cons_succ]
            refine wpAnyH_ready (rs := [11]) (by kernel_rfl) (by simp) ?_
            refine AllReadyH.cons (o := oprtv1) rfl (fun KK hKK => ?_) ?_
            ·
              clear kk3
              generalize X2.alloc (.cells #[.bool false, .slice none 0 0, .slice none 0 0, .slice none 0 0] 121) = X3 at *
              obtain ⟨⟨g0, f0⟩, ⟨g1, f1⟩, ⟨g2, f2⟩, ⟨g3, f3⟩, hf9⟩ := N.ready4 hn3 (.bool true) (.slice kp9 mm kc9) (.slice vp9 mm vc9) (.slice none 0 0)
              go_simp
              refine hKK.out _ _ ?_ (fun hHeld => ?_)
              · (try dsimp only)
                exact HSA.out _ (J3.st4 sz3 _ _ _ _)
              clear hKK KK
              try simp only [Act.put, List.setIfInBounds_toArray, List.set_cons_zero, List.set_cons_succ]
              refine wpAnyH_ready (rs := [12]) (by kernel_rfl) (by simp) ?_
              refine AllReadyH.cons (o := oprtv0) rfl (fun KK hKK => ?_) ?_
              ·
                have hz9 := (N.others4 X3 (show X.heap.size ≠ X2.heap.size from fun e => by rw [e] at hZ3; rw [hn3] at hZ3; cases hZ3) (.bool true) (.slice kp9 mm kc9) (.slice vp9 mm vc9) (.slice none 0 0)).trans hZ3
                obtain ⟨⟨p0, r0⟩, ⟨p1, r1⟩, ⟨p2, r2⟩, hf10⟩ := N.ready3 hz9 (.string old.d) (.int .i64 old.p) (.int .i64 old.l)
                go_simp
                refine hKK.out _ _ ?_ (fun hHeld => ?_)
                · (try dsimp only)
                  exact HSA.out _ ((J3.st4 sz3 _ _ _ _).st3 sz0 _ _ _)
                clear hKK KK
                try simp only [Act.put, List.setIfInBounds_toArray, List.set_cons_zero, List.set_cons_succ]
                refine wpAnyH_take (i := 13) (oi := oprtv2) (v := ?_) rfl (by kernel_rfl) (by kernel_rfl) (by kernel_rfl) (fun _ _ _ h => h) (Or.inl ⟨by rfl, ?_⟩) (by assumption) ?_
                rotate_left
                · intro w hSw
                  (try dsimp only at hSw)
                  go_simp
                  all_goals with_reducible rfl
                try simp only [Act.put, List.setIfInBounds_toArray, List.set_cons_zero, List.set_cons_succ]
                refine wpAnyH_done (by kernel_rfl) ?_ _
                have pc := pc_of (old := old) (ib := ib) hn3 hZ3 OK3 OV3 (.inl ((Array.getElem?_eq_some_iff.1 hZ1).1)) J3 sz3 sz0
                go_wp2_with fail
                go_meet
                exact pc
              exact AllReadyH.nil
            exact AllReadyH.nil
          exact AllReadyH.nil
        refine AllReadyH.cons (o := oprtv12) rfl (fun KK hKK => ?_) ?_
        ·
          have kk2 := (Kept.refl X1).alloc (.cells #[.bool false, .slice none 0 0, .slice none 0 0, .slice none 0 0] 121)
          have J2 := J1.trans kk2
          have hn2 := heap_alloc_new X1 (.cells #[.bool false, .slice none 0 0, .slice none 0 0, .slice none 0 0] 121)
          have sz2 := J1.size
          have hZ2 := kk2.block hZ1
          go_simp
          refine hKK.out _ _ ?_ (fun hHeld => ?_)
          · (try dsimp only)
            exact HSA.out _ J2
          clear hKK KK
          try simp only [Act.put, List.setIfInBounds_toArray, List.set_cons_zero, List.set_cons_succ]
          refine wpAnyH_ready (rs := [4]) (by kernel_rfl) (by simp) ?_
          refine AllReadyH.cons (o := oprtv3) rfl (fun KK hKK => ?_) ?_
          ·
            clear kk2
            generalize X1.alloc (.cells #[.bool false, .slice none 0 0, .slice none 0 0, .slice none 0 0] 121) = X2 at *
            go_simp
            go_at_call 93
            (with_reducible refine (HW.out.f4 _ J2).mono ?_)
            rintro e X3 ⟨kp9, mm, kc9, vp9, vc9, rfl, OK3, OV3, kk3⟩
            have J3 := J2.trans kk3
            have hA3 := kk3.block hn2
            have hZ3 := kk3.block hZ2
            go_wp2_with fail
            refine hKK.out _ _ ?_ (fun hHeld => ?_)
            · (try dsimp only)
              exact HSA.out _ J3
            clear hKK KK
            try simp only [Act.put, List.setIfInBounds_toArray, List.set_cons_zero, List.set_cons_succ]
            refine wpAnyH_take (i := 5) (oi := oprtv8) (v := ?_) rfl (by kernel_rfl) (by kernel_rfl) (by kernel_rfl) (fun _ _ _ h => h) (Or.inl ⟨by rfl, ?_⟩) (by assumption) ?_
            rotate_left
            · intro w hSw
              (try dsimp only at hSw)
              go_simp
              all_goals with_reducible rfl
            try simp only [Act.put, List.setIfInBounds_toArray, List.set_cons_zero, List.set_cons_succ]
            refine wpAnyH_take (i := 6) (oi := oprtv7) (v := ?_) rfl (by kernel_rfl) (by kernel_rfl) (by kernel_rfl) (fun _ _ _ h => h) (Or.inl ⟨by rfl, ?_⟩) (by assumption) ?_
            rotate_left
            · intro w hSw
              (try dsimp only at hSw)
              go_simp
              all_goals with_reducible rfl
            try simp only [Act.put, List.setIfInBounds_toArray, List.set_cons_zero, List.set_cons_succ]
            refine wpAnyH_take (i := 7) (oi := oprtv5) (v := ?_) rfl (by kernel_rfl) (by kernel_rfl) (by kernel_rfl) (fun _ _ _ h => h) (Or.inl ⟨by rfl, ?_⟩) (by assumption) ?_
            rotate_left
            · intro w hSw
              (try dsimp only at hSw)
              go_simp
              all_goals with_reducible rfl
            try simp only [Act.put, List.setIfInBounds_toArray, List.set_cons_zero, List.set_cons_succ]
            refine wpAnyH_take (i := 8) (oi := oprtv6) (v := ?_) rfl (by kernel_rfl) (by kernel_rfl) (by kernel_rfl) (fun _ _ _ h => h) (Or.inl ⟨by rfl, ?_⟩) (by assumption) ?_
            rotate_left
            · intro w hSw
              (try dsimp only at hSw)
              go_simp
              all_goals with_reducible rfl
            try simp only [Act.put, List.setIfInBounds_toArray, List.set_cons_zero, List.set_cons_succ]
            refine wpAnyH_ready (rs := [11]) (by kernel_rfl) (by simp) ?_
            refine AllReadyH.cons (o := oprtv1) rfl (fun KK hKK => ?_) ?_
            ·
              obtain ⟨⟨g0, f0⟩, ⟨g1, f1⟩, ⟨g2, f2⟩, ⟨g3, f3⟩, hf9⟩ := N.ready4 hA3 (.bool true) (.slice kp9 mm kc9) (.slice vp9 mm vc9) (.slice none 0 0)
              go_simp
              refine hKK.out _ _ ?_ (fun hHeld => ?_)
              · (try dsimp only)
                exact HSA.out _ (J3.st4 sz2 _ _ _ _)
              clear hKK KK
              try simp only [Act.put, List.setIfInBounds_toArray, List.set_cons_zero, List.set_cons_succ]
              refine wpAnyH_ready (rs := [12]) (by kernel_rfl) (by simp) ?_
              refine AllReadyH.cons (o := oprtv0) rfl (fun KK hKK => ?_) ?_
              ·
                have hz9 := (N.others4 X3 (show X.heap.size ≠ X1.heap.size from fun e => by rw [e] at hZ3; rw [hA3] at hZ3; cases hZ3) (.bool true) (.slice kp9 mm kc9) (.slice vp9 mm vc9) (.slice none 0 0)).trans hZ3
                obtain ⟨⟨p0, r0⟩, ⟨p1, r1⟩, ⟨p2, r2⟩, hf10⟩ := N.ready3 hz9 (.string old.d) (.int .i64 old.p) (.int .i64 old.l)
                go_simp
                refine hKK.out _ _ ?_ (fun hHeld => ?_)
                · (try dsimp only)
                  exact HSA.out _ ((J3.st4 sz2 _ _ _ _).st3 sz0 _ _ _)
                clear hKK KK
                try simp only [Act.put, List.setIfInBounds_toArray, List.set_cons_zero, List.set_cons_succ]
                refine wpAnyH_take (i := 13) (oi := oprtv2) (v := ?_) rfl (by kernel_rfl) (by kernel_rfl) (by kernel_rfl) (fun _ _ _ h => h) (Or.inl ⟨by rfl, ?_⟩) (by assumption) ?_
                rotate_left
                · intro w hSw
                  (try dsimp only at hSw)
                  go_simp
                  all_goals with_reducible rfl
                try simp only [Act.put, List.setIfInBounds_toArray, List.set_cons_zero, List.set_cons_succ]
                refine wpAnyH_done (by kernel_rfl) ?_ _
                have pc := pc_of (old := old) (ib := ib) hA3 hZ3 OK3 OV3 (.inl ((Array.getElem?_eq_some_iff.1 hZ2).1)) J3 sz2 sz0
                go_wp2_with fail
                go_meet
                exact pc
              exact AllReadyH.nil
            exact AllReadyH.nil
          exact AllReadyH.nil
        exact AllReadyH.nil
      refine AllReadyH.cons (o := oprtv12) rfl (fun KK hKK => ?_) ?_
      ·
        clear kk0
        generalize X.alloc (.cells #[.string ⟨#[]⟩, .int .i64 0, .int .i64 0] 77) = X0 at *
        have kk1 := (Kept.refl X0).alloc (.cells #[.bool false, .slice none 0 0, .slice none 0 0, .slice none 0 0] 121)
        have J1 := J0.trans kk1
        have hn1 := heap_alloc_new X0 (.cells #[.bool false, .slice none 0 0, .slice none 0 0, .slice none 0 0] 121)
        have sz1 := J0.size
        have hZ1 := kk1.block hn0
        go_simp
        refine hKK.out _ _ ?_ (fun hHeld => ?_)
        · (try dsimp only)
          exact HSA.out _ J1
        clear hKK KK
        try simp only [Act.put, List.setIfInBounds_toArray, List.set_cons_zero, List.set_cons_succ]
        refine wpAnyH_ready (rs := [1]) (by kernel_rfl) (by simp) ?_
        refine AllReadyH.cons (o := oprtv4) rfl (fun KK hKK => ?_) ?_
        ·
          clear kk1
          generalize X0.alloc (.cells #[.bool false, .slice none 0 0, .slice none 0 0, .slice none 0 0] 121) = X1 at *
          go_simp
          go_at_call 63
          (with_reducible refine (HW.out.f3 _ J1).mono ?_)
          rintro e X2 ⟨rfl, kk2⟩
          have J2 := J1.trans kk2
          have hA2 := kk2.block hn1
          have hZ2 := kk2.block hZ1
          go_wp2_with fail
          refine hKK.out _ _ ?_ (fun hHeld => ?_)
          · (try dsimp only)
            exact HSA.out _ J2
          clear hKK KK
          try simp only [Act.put, List.setIfInBounds_toArray, List.set_cons_zero, List.set_cons_succ]
          refine wpAnyH_ready (rs := [4]) (by kernel_rfl) (by simp) ?_
          refine AllReadyH.cons (o := oprtv3) rfl (fun KK hKK => ?_) ?_
          ·
            go_simp
            go_at_call 93
            (with_reducible refine (HW.out.f4 _ J2).mono ?_)
            rintro e X3 ⟨kp9, mm, kc9, vp9, vc9, rfl, OK3, OV3, kk3⟩
            have J3 := J2.trans kk3
            have hA3 := kk3.block hA2
            have hZ3 := kk3.block hZ2
            go_wp2_with fail
            refine hKK.out _ _ ?_ (fun hHeld => ?_)
            · (try dsimp only)
              exact HSA.out _ J3
            clear hKK KK
            try simp only [Act.put, List.setIfInBounds_toArray, List.set_cons_zero, List.set_cons_succ]
            refine wpAnyH_take (i := 5) (oi := oprtv8) (v := ?_) rfl (by kernel_rfl) (by kernel_rfl) (by kernel_rfl) (fun _ _ _ h => h) (Or.inl ⟨by rfl, ?_⟩) (by assumption) ?_
            rotate_left
            · intro w hSw
              (try dsimp only at hSw)
              go_simp
              all_goals with_reducible rfl
            try simp only [Act.put, List.setIfInBounds_toArray, List.set_cons_zero, List.set_cons_succ]
            refine wpAnyH_take (i := 6) (oi := oprtv7) (v := ?_) rfl (by kernel_rfl) (by kernel_rfl) (by kernel_rfl) (fun _ _ _ h => h) (Or.inl ⟨by rfl, ?_⟩) (by assumption) ?_
            rotate_left
            · intro w hSw
              (try dsimp only at hSw)
              go_simp
              all_goals with_reducible rfl
            try simp only [Act.put, List.setIfInBounds_toArray, List.set_cons_zero, List.set_cons_succ]
            refine wpAnyH_take (i := 7) (oi := oprtv5) (v := ?_) rfl (by kernel_rfl) (by kernel_rfl) (by kernel_rfl) (fun _ _ _ h => h) (Or.inl ⟨by rfl, ?_⟩) (by assumption) ?_
            rotate_left
            · intro w hSw
              (try dsimp only at hSw)
              go_simp
              all_goals with_reducible rfl
            try simp only [Act.put, List.setIfInBounds_toArray, List.set_cons_zero, List.set_cons_succ]
            refine wpAnyH_take (i := 8) (oi := oprtv6) (v := ?_) rfl (by kernel_rfl) (by kernel_rfl) (by kernel_rfl) (fun _ _ _ h => h) (Or.inl ⟨by rfl, ?_⟩) (by assumption) ?_
            rotate_left
            · intro w hSw
              (try dsimp only at hSw)
              go_simp
              all_goals with_reducible rfl
            try simp only [Act.put, List.setIfInBounds_toArray, List.set_cons_zero, List.set_cons_succ]
            refine wpAnyH_ready (rs := [11]) (by kernel_rfl) (by simp) ?_
            refine AllReadyH.cons (o := oprtv1) rfl (fun KK hKK => ?_) ?_
            ·
              obtain ⟨⟨g0, f0⟩, ⟨g1, f1⟩, ⟨g2, f2⟩, ⟨g3, f3⟩, hf9⟩ := N.ready4 hA3 (.bool true) (.slice kp9 mm kc9) (.slice vp9 mm vc9) (.slice none 0 0)
              go_simp
              refine hKK.out _ _ ?_ (fun hHeld => ?_)
              · (try dsimp only)
                exact HSA.out _ (J3.st4 sz1 _ _ _ _)
              clear hKK KK
              try simp only [Act.put, List.setIfInBounds_toArray, List.set_cons_zero, List.set_cons_succ]
              refine wpAnyH_ready (rs := [12]) (by kernel_rfl) (by simp) ?_
              refine AllReadyH.cons (o := oprtv0) rfl (fun KK hKK => ?_) ?_
              ·
                have hz9 := (N.others4 X3 (show X.heap.size ≠ X0.heap.size from fun e => by rw [e] at hZ3; rw [hA3] at hZ3; cases hZ3) (.bool true) (.slice kp9 mm kc9) (.slice vp9 mm vc9) (.slice none 0 0)).trans hZ3
                obtain ⟨⟨p0, r0⟩, ⟨p1, r1⟩, ⟨p2, r2⟩, hf10⟩ := N.ready3 hz9 (.string old.d) (.int .i64 old.p) (.int .i64 old.l)
                go_simp
                refine hKK.out _ _ ?_ (fun hHeld => ?_)
                · (try dsimp only)
                  exact HSA.out _ ((J3.st4 sz1 _ _ _ _).st3 sz0 _ _ _)
                clear hKK KK
                try simp only [Act.put, List.setIfInBounds_toArray, List.set_cons_zero, List.set_cons_succ]
                refine wpAnyH_take (i := 13) (oi := oprtv2) (v := ?_) rfl (by kernel_rfl) (by kernel_rfl) (by kernel_rfl) (fun _ _ _ h => h) (Or.inl ⟨by rfl, ?_⟩) (by assumption) ?_
                rotate_left
                · intro w hSw
                  (try dsimp only at hSw)
                  go_simp
                  all_goals with_reducible rfl
                try simp only [Act.put, List.setIfInBounds_toArray, List.set_cons_zero, List.set_cons_succ]
                refine wpAnyH_done (by kernel_rfl) ?_ _
                have pc := pc_of (old := old) (ib := ib) hA3 hZ3 OK3 OV3 (.inl ((Array.getElem?_eq_some_iff.1 hZ2).1)) J3 sz1 sz0
                go_wp2_with fail
                go_meet
                exact pc
              exact AllReadyH.nil
            exact AllReadyH.nil
          exact AllReadyH.nil
        exact AllReadyH.nil
      exact AllReadyH.nil
    exact AllReadyH.nil

  case rest =>
    obtain ⟨a9, a10, kp9, mm, kc9, vp9, vc9, rfl, rfl, rfl, X9, X10, N9, k9⟩ := hcut.out
    obtain ⟨x0, x1, x2, x3⟩ := X9.cs
    have f5 := HW.out.f5 wc kp9 mm kc9 vp9 vc9 k9 N9
    have HX10 : Hid (C3 wc a10 77 (.string old.d) (.int .i64 old.p) (.int .i64 old.l)) := X10
    have H6 : Hid (wc.heap[w.heap.size + 1]? = some (.cells #[.string ⟨#[]⟩, .int .i64 0, .int .i64 0] 77)) := k9.block S61
    have HKc : Hid (Kept w wc) := K1.trans k9
    clear hcut X9 X10 N9 k9 HSA HW S51 S61 K0 K1 K2 k1 k2
    go_wp2_with fail
    refine f5.mono ?_
    rintro e w5 hR
    have HNe : Hid (∀ b cc fr, wc.heap[b]? = some (.cells cc 77 fr) → b ≠ t) := fun b cc fr hb e => by
      have h2 := (HT.out.kept HKc.out).out
      rw [e, h2] at hb; injection hb with hb; injection hb with _ hb _; exact absurd hb (by decide)
    rcases hR with ⟨rfl, M', r, tr, T5, V5, x5⟩ | ⟨rfl, M', ex, T5, V5, x5⟩
    · have R6 : C3 w5 (w.heap.size + 1) 77 (.string ⟨#[]⟩) (.int .i64 0) (.int .i64 0) := ⟨x5.rows _ _ _ _ H6.out calm77 (HNe.out _ _ _ H6.out)⟩
      have Y10 : C3 w5 a10 77 (.string old.d) (.int .i64 old.p) (.int .i64 old.l) := ⟨x5.rows _ _ _ _ HX10.out.out calm77 (HNe.out _ _ _ HX10.out.out)⟩
      obtain ⟨y0, y1, y2⟩ := Y10.cs
      obtain ⟨⟨g0, i0⟩, ⟨g1, i1⟩, ⟨g2, i2⟩, hfin⟩ := N.ready3 R6.out (.string old.d) (.int .i64 old.p) (.int .i64 old.l)
      have oth : ∀ k, k ≠ w.heap.size + 1 → (((w5.setCell ⟨w.heap.size + 1, 0, none⟩ (.string old.d)).setCell ⟨w.heap.size + 1, 1, none⟩ (.int .i64 old.p)).setCell ⟨w.heap.size + 1, 2, none⟩ (.int .i64 old.l)).heap[k]? = w5.heap[k]? := fun k hk => oth3 w5 hk _ _ _
      have q1 := tat_oth T5 R6.out (by decide) oth
      have q2 : Pv B (((w5.setCell ⟨w.heap.size + 1, 0, none⟩ (.string old.d)).setCell ⟨w.heap.size + 1, 1, none⟩ (.int .i64 old.p)).setCell ⟨w.heap.size + 1, 2, none⟩ (.int .i64 old.l)) p m M' := V5.ap (Ap.other R6.out (by decide) (fun k o hk hne => (oth k hne).trans hk))
      have q3 := tx_oth ((Tx.ofOn (t := t) (G.On.ofKept ⟨HKc.out.out⟩ HB.out)).trans x5) (z := w.heap.size + 1) (Nat.le_succ _) HB.out (zero3 _ _ _ _ _) oth
      clear T5 V5 x5 oth R6 Y10 f5 x0 x1 x2 x3
      go_wp2
      generalize (((w5.setCell ⟨w.heap.size + 1, 0, none⟩ (.string old.d)).setCell ⟨w.heap.size + 1, 1, none⟩ (.int .i64 old.p)).setCell ⟨w.heap.size + 1, 2, none⟩ (.int .i64 old.l)) = WF at *
      refine bodyPost_ret (v := .tuple #[.agg #[.string old.d, .int .i64 old.p, .int .i64 old.l], .bool ib, .int .i64 0]) ?_ rfl (.inl ⟨rfl, M', r, tr, q1, q2, q3⟩)
      exact results_ctt (p := 6) (u := 7) (v := 8) (ty := 77) rfl _ _ (w.heap.size + 1) 77 #[.string old.d, .int .i64 old.p, .int .i64 old.l] (0, 0) _ rfl hfin Tryz.underlying77 rfl size77
    · have R6 : C3 w5 (w.heap.size + 1) 77 (.string ⟨#[]⟩) (.int .i64 0) (.int .i64 0) := ⟨x5.rows _ _ _ _ H6.out calm77 (HNe.out _ _ _ H6.out)⟩
      obtain ⟨⟨g0, i0⟩, ⟨g1, i1⟩, ⟨g2, i2⟩, hfin⟩ := N.ready3 R6.out (.string ⟨#[]⟩) (.int .i64 0) (.int .i64 0)
      have oth : ∀ k, k ≠ w.heap.size + 1 → (((w5.setCell ⟨w.heap.size + 1, 0, none⟩ (.string ⟨#[]⟩)).setCell ⟨w.heap.size + 1, 1, none⟩ (.int .i64 0)).setCell ⟨w.heap.size + 1, 2, none⟩ (.int .i64 0)).heap[k]? = w5.heap[k]? := fun k hk => oth3 w5 hk _ _ _
      have q1 := tat_oth T5 R6.out (by decide) oth
      have q2 : Pv B (((w5.setCell ⟨w.heap.size + 1, 0, none⟩ (.string ⟨#[]⟩)).setCell ⟨w.heap.size + 1, 1, none⟩ (.int .i64 0)).setCell ⟨w.heap.size + 1, 2, none⟩ (.int .i64 0)) p m M' := V5.ap (Ap.other R6.out (by decide) (fun k o hk hne => (oth k hne).trans hk))
      have q3 := tx_oth ((Tx.ofOn (t := t) (G.On.ofKept ⟨HKc.out.out⟩ HB.out)).trans x5) (z := w.heap.size + 1) (Nat.le_succ _) HB.out (zero3 _ _ _ _ _) oth
      clear T5 V5 x5 oth R6 f5 x0 x1 x2 x3
      go_wp2
      generalize (((w5.setCell ⟨w.heap.size + 1, 0, none⟩ (.string ⟨#[]⟩)).setCell ⟨w.heap.size + 1, 1, none⟩ (.int .i64 0)).setCell ⟨w.heap.size + 1, 2, none⟩ (.int .i64 0)) = WF at *
      refine bodyPost_ret (v := .tuple #[.agg #[.string ⟨#[]⟩, .int .i64 0, .int .i64 0], .bool false, .int .i64 80]) ?_ rfl (.inr ⟨rfl, M', ex, q1, q2, q3⟩)
      exact results_ctt (p := 6) (u := 7) (v := 8) (ty := 77) rfl _ _ (w.heap.size + 1) 77 #[.string ⟨#[]⟩, .int .i64 0, .int .i64 0] (0, 0) _ rfl hfin Tryz.underlying77 rfl size77
open B (put_leaf ksum_le)
open N (setK setV delK delV Okv)

theorem mayVal_ok (w : World) (d : ByteArray) (hd : d.size ≤ 48) : Calls Tryz.prog 92 #[.agg #[.string d, .int .i64 (-1), .int .i64 0]] w fun e w' => e = .returned (.bool true) ∧ Kept w w' := by
  have K0 : Kept w (w.alloc (.cells #[.string d, .int .i64 (-1), .int .i64 0] 77)) := (Kept.refl w).alloc _
  obtain ⟨x0, x1, x2⟩ := (C3.alloc w 77 (.string d) (.int .i64 (-1)) (.int .i64 0)).cs
  have h1 : (d.size : Int) ≤ 48 := by omega
  go_enter Tryz.func92, Tryz.ntmps92
  go_wp2
  go_ret
  exact ⟨rfl, K0⟩
theorem set_nil_k (key : ByteArray) : setK [] key = [key] := by simp [setK, isk, N.ins, fnd]
theorem set_nil_v (key : ByteArray) (v : Vl) : setV [] [] key v = [v] := by simp [setV, isk, N.ins, fnd]
theorem old_nil (key : ByteArray) : oldV [] [] key = ⟨⟨#[]⟩, -1, 0⟩ := by simp [oldV, isk]
theorem isk_nil (key : ByteArray) : isk key [] = false := by simp [isk]
theorem one_small {key : ByteArray} {v : Vl} (hk : key.size ≤ 64) (hv : Okv v) : N.Good ⟨true, [key], [v], []⟩ ∧ (⟨true, [key], [v], []⟩ : Nd).put.length ≤ 237 := by
  have g : N.Good ⟨true, [key], [v], []⟩ := ⟨by simp, fun k h => by simp at h; rw [h]; exact hk, fun _ => ⟨rfl, rfl⟩, (fun e => by cases e), fun x h => by simp at h; rw [h]; exact hv, fun i h => by cases h⟩
  refine ⟨g, ?_⟩
  rw [put_leaf g rfl]
  have h1 := ksum_le [key] (fun k h => by simp at h; rw [h]; exact hk)
  have h2 : N.vsum [v] ≤ 50 := by
    have := N.valN_length _ hv
    simp [N.vsum]; omega
  simp at h1
  show 1 + N.ksum [key] + N.vsum [v] ≤ 237
  omega

theorem put_empty {B : Nat} {w : World} {t p : Nat} {m : Xm} {M : Pm} (key d : ByteArray) (hT : TAt w t p (-1)) (hBt : B ≤ t) (hV : Pv B w p m M) (hM : ∀ q, M q = none) (hB : B ≤ w.heap.size) (hL : S.Lds w) (hk : key.size ≤ 64) (hd : d.size ≤ 48) :
    Calls Tryz.prog 61 #[.pointer (some ⟨t, 0, none⟩), .string key, .agg #[.string d, .int .i64 (-1), .int .i64 0]] w (PPost 0 B t p m (-1) M [(key, ⟨d, -1, 0⟩)] ⟨⟨#[]⟩, -1, 0⟩ false w) := by
  have hv : Okv ⟨d, -1, 0⟩ := .inl ⟨rfl, rfl, hd⟩
  obtain ⟨g1, g2⟩ := one_small (key := key) hk hv
  refine put_core (ks' := [key]) (vs' := [⟨d, -1, 0⟩]) hT hB hk (fun W _ => mayVal_ok W d hd) (fun W k => ?_)
  refine (way_nil (key := key) (hT.kept k)).mono ?_
  rintro e w1 ⟨rfl, rfl⟩
  refine ⟨none, 0, 0, true, none, 0, 0, none, 0, 0, none, 0, 0, rfl, ⟨fun W1 _ => end_nil W1, fun W1 _ => ?_, fun W1 kp' mm kc' vp'' vc' k1 hN => ?_⟩, Kept.refl _⟩
  · have := N.set_walk (w := W1) (l := true) (kp := none) (vp := none) (ip := none) (n := 0) (kc := 0) (vc := 0) (ni := 0) (ic := 0) (ks := []) (vs := []) ⟨rfl, Nat.le_refl _, Nat.zero_le _, .inl ⟨rfl, rfl⟩⟩ ⟨rfl, Nat.le_refl _, Nat.zero_le _, .inl ⟨rfl, rfl⟩⟩ (by omega) key ⟨d, -1, 0⟩
    rw [set_nil_k, set_nil_v, old_nil, isk_nil] at this
    exact this
  · exact replace_nil ((hT.kept k).kept k1) hBt ((hV.kept k).kept k1) hM (Nat.le_trans hB (Nat.le_trans k.size k1.size)) (lds_kept (lds_kept hL k) k1) hN rfl g1 g2
end Go.Proofs.YtifeihnhkbagpaaGreatDoor.T