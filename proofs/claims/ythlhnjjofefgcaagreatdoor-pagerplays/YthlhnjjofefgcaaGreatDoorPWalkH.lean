/- The walks of page.Put and page.Get, whole: a page's sector, and the page that bytes say. Conditions: numbers are within their kinds; Data has 100000 bytes at most; bytes are below 256. -/
import Derived.Test.YthlhnjjofefgcaaGreatDoorPWalkG
import Derived.Laws.ResultCell
import Derived.Laws.Rows
namespace Go.Proofs.YthlhnjjofefgcaaGreatDoor.P
open Go.ChangeShapes Go.WideShapes Go.ChangeAt Go.RowKit

theorem put_walk (kd nm : Int) (g : Nat) (hg : g < 18446744073709551616) (l : List Nat) (w : World) :
    Calls Tryz.prog 52 #[.agg #[.int .i64 kd, .int .i64 nm, .int .u64 (g : Nat), .string (bs l)]] w fun e w' => e = .returned (.string (bs (putL kd nm g l))) ∧ Kept w w' := by
  by_cases h : May kd nm l
  · rw [putL_may h]
    obtain ⟨h1, h2, h3, h4, h5⟩ := h
    have := put_yes kd.toNat nm.toNat g l (by omega) (by omega) (by omega) hg h5 w
    rwa [show ((kd.toNat : Nat) : Int) = kd by omega, show ((nm.toNat : Nat) : Int) = nm by omega] at this
  · rw [putL_not h]
    refine put_no kd nm g (bs l) ?_ w
    rw [bs_size]
    exact h

theorem results_two {P : Program} {fn : Func} {p u : Tmp} {ty : TypeId} (h : fn.results = #[.cell p ty, .tmp u]) (tmps : Array Value) (w : World) (g : Nat) (t : TypeId) (cs : Array Value) (fr : Nat × Nat) (d : TypeDesc)
    (hp : tmps.getD p undef = .pointer (some ⟨g, 0, none⟩)) (hg : w.heap[g]? = some (.cells cs t fr))
    (hu : P.underlying ty = some d) (hd : (match d with | .struct _ | .array _ _ => true | _ => false) = true) (hi : (P.info? ty).map (·.size) = some cs.size) :
    (results fn tmps).run P w = .ok (.tuple #[.agg cs, tmps.getD u undef]) w := by
  rw [results_cell_tmp h, hp]
  simp [asAddr, run_loadVar_row w g t ty cs fr d hg hu hd hi]

theorem size55 : (Tryz.prog.info? 55).map (·.size) = some 4 := by kernel_rfl

theorem Pg.fz {w : World} {b : Nat} {kd nm : Int} {g : Int} {s : ByteArray} {t : TypeId} (k : Pg w b kd nm g s t) (j : Nat) : w.frozen? ⟨b, j, none⟩ = false := frozen_of_row w b j _ _ k.out
theorem Pg.lt {w : World} {b : Nat} {kd nm : Int} {g : Int} {s : ByteArray} {t : TypeId} (k : Pg w b kd nm g s t) : b < w.heap.size := (Array.getElem?_eq_some_iff.1 k.out).1
theorem On.pg {c : Nat} {w w' : World} (h : On c w w') {b : Nat} {kd nm : Int} {g : Int} {s : ByteArray} {t : TypeId} (k : Pg w b kd nm g s t) (hb : b ≠ c) : Pg w' b kd nm g s t :=
  ⟨(h.rest b k.lt hb).trans k.out⟩
theorem Pg.set3 {w : World} {b : Nat} {kd nm : Int} {g : Int} {s : ByteArray} {t : TypeId} (k : Pg w b kd nm g s t) (d : ByteArray) : Pg (w.setCell ⟨b, 3, none⟩ (.string d)) b kd nm g d t :=
  ⟨by rw [heap_setCell_same w b 3 _ _ _ k.out]; rfl⟩
theorem Pg.set0 {w : World} {b : Nat} {kd nm : Int} {g : Int} {s : ByteArray} {t : TypeId} (k : Pg w b kd nm g s t) (d : Int) : Pg (w.setCell ⟨b, 0, none⟩ (.int .i64 d)) b d nm g s t :=
  ⟨by rw [heap_setCell_same w b 0 _ _ _ k.out]; rfl⟩
theorem Pg.set1 {w : World} {b : Nat} {kd nm : Int} {g : Int} {s : ByteArray} {t : TypeId} (k : Pg w b kd nm g s t) (d : Int) : Pg (w.setCell ⟨b, 1, none⟩ (.int .i64 d)) b kd d g s t :=
  ⟨by rw [heap_setCell_same w b 1 _ _ _ k.out]; rfl⟩
theorem Pg.set2 {w : World} {b : Nat} {kd nm : Int} {g : Int} {s : ByteArray} {t : TypeId} (k : Pg w b kd nm g s t) (d : Int) : Pg (w.setCell ⟨b, 2, none⟩ (.int .u64 d)) b kd nm d s t :=
  ⟨by rw [heap_setCell_same w b 2 _ _ _ k.out]; rfl⟩
/-- What is needed to store a page there. -/
theorem Pg.ready {w : World} {b : Nat} {kd nm : Int} {g : Int} {s : ByteArray} {t : TypeId} (k : Pg w b kd nm g s t) (x y z : Int) :
    (w.cell? ⟨b, 0, none⟩ = some (.int .i64 kd) ∧ w.frozen? ⟨b, 0, none⟩ = false) ∧
    ((w.setCell ⟨b, 0, none⟩ (.int .i64 x)).cell? ⟨b, 1, none⟩ = some (.int .i64 nm) ∧ (w.setCell ⟨b, 0, none⟩ (.int .i64 x)).frozen? ⟨b, 1, none⟩ = false) ∧
    (((w.setCell ⟨b, 0, none⟩ (.int .i64 x)).setCell ⟨b, 1, none⟩ (.int .i64 y)).cell? ⟨b, 2, none⟩ = some (.int .u64 g) ∧ ((w.setCell ⟨b, 0, none⟩ (.int .i64 x)).setCell ⟨b, 1, none⟩ (.int .i64 y)).frozen? ⟨b, 2, none⟩ = false) ∧
    ((((w.setCell ⟨b, 0, none⟩ (.int .i64 x)).setCell ⟨b, 1, none⟩ (.int .i64 y)).setCell ⟨b, 2, none⟩ (.int .u64 z)).cell? ⟨b, 3, none⟩ = some (.string s) ∧ (((w.setCell ⟨b, 0, none⟩ (.int .i64 x)).setCell ⟨b, 1, none⟩ (.int .i64 y)).setCell ⟨b, 2, none⟩ (.int .u64 z)).frozen? ⟨b, 3, none⟩ = false) :=
  have k1 := k.set0 x
  have k2 := k1.set1 y
  have k3 := k2.set2 z
  ⟨⟨k.cs.1, k.fz 0⟩, ⟨k1.cs.2.1, k1.fz 1⟩, ⟨k2.cs.2.2.1, k2.fz 2⟩, k3.cs.2.2.2, k3.fz 3⟩
theorem Pg.fill {w : World} {b : Nat} {kd nm : Int} {g : Int} {s : ByteArray} {t : TypeId} (k : Pg w b kd nm g s t) (x y z : Int) (d : ByteArray) :
    Pg ((((w.setCell ⟨b, 0, none⟩ (.int .i64 x)).setCell ⟨b, 1, none⟩ (.int .i64 y)).setCell ⟨b, 2, none⟩ (.int .u64 z)).setCell ⟨b, 3, none⟩ (.string d)) b x y z d t := (((k.set0 x).set1 y).set2 z).set3 d
theorem Rd.far {w : World} {b : Nat} {s : ByteArray} {e : Int} (k : Rd w b s e) (a : Addr) (v : Value) (h : b ≠ a.block) : Rd (w.setCell a v) b s e :=
  ⟨(heap_setCell_other w a b v h).trans k.out⟩

theorem Kept.row {w W : World} (h : Kept w W) {g : Nat} (hg : w.heap.size ≤ g) (cs : Array Value) : Kept w (W.setRow g cs) := by
  refine ⟨⟨h.out.os, h.out.tape, h.out.output, ?_, ?_⟩⟩
  · show w.heap.size ≤ (W.heap.modify g _).size
    rw [Array.size_modify]; exact h.size
  · intro k hk
    show (W.heap.modify g _)[k]? = _
    rw [Array.getElem?_modify, if_neg (by omega)]
    exact h.out.block k hk

theorem Kept.set {w W : World} (h : Kept w W) {a : Addr} (ha : w.heap.size ≤ a.block) (v : Value) : Kept w (W.setCell a v) := ⟨h.out.setCell ha v⟩

set_option maxRecDepth 100000 in
set_option maxHeartbeats 2000000 in
theorem get_A (S S1 S2 S3 S4 S5 D P : ByteArray) (K N G C : Nat) (x1 x2 x3 x4 x5 : Int) (hK : K < 256) (hN : N < 4294967296) (hC : C < 65536)
    (f1 : ∀ W b, Rd W b S 0 → Calls Tryz.prog 77 #[.pointer (some ⟨b, 0, none⟩), .int .i64 1] W fun e w' => e = .returned (.int .u64 (K : Nat)) ∧ Rd w' b S1 x1 ∧ On b W w')
    (f2 : ∀ W b, Rd W b S1 x1 → Calls Tryz.prog 77 #[.pointer (some ⟨b, 0, none⟩), .int .i64 4] W fun e w' => e = .returned (.int .u64 (N : Nat)) ∧ Rd w' b S2 x2 ∧ On b W w')
    (f3 : ∀ W b, Rd W b S2 x2 → Calls Tryz.prog 77 #[.pointer (some ⟨b, 0, none⟩), .int .i64 8] W fun e w' => e = .returned (.int .u64 (G : Nat)) ∧ Rd w' b S3 x3 ∧ On b W w')
    (f4 : ∀ W b, Rd W b S3 x3 → Calls Tryz.prog 77 #[.pointer (some ⟨b, 0, none⟩), .int .i64 2] W fun e w' => e = .returned (.int .u64 (C : Nat)) ∧ Rd w' b S4 x4 ∧ On b W w')
    (f5 : ∀ W b, Rd W b S4 x4 → Calls Tryz.prog 78 #[.pointer (some ⟨b, 0, none⟩), .int .i64 (C : Nat)] W fun e w' => e = .returned (.string D) ∧ Rd w' b S5 x5 ∧ On b W w')
    (f7 : ∀ W, Calls Tryz.prog 52 #[.agg #[.int .i64 (K : Nat), .int .i64 (N : Nat), .int .u64 (G : Nat), .string D]] W fun e w' => e = .returned (.string P) ∧ Kept W w')
    (hx : (x5 != 0) = true) (w : World) :
    Calls Tryz.prog 56 #[.string S] w fun e w' => e = .returned (.tuple #[.agg #[.int .i64 0, .int .i64 0, .int .u64 0, .string ⟨#[]⟩], .int .i64 3]) ∧ Kept w w' := by
  have F1 : Hid _ := f1
  have F2 : Hid _ := f2
  have F3 : Hid _ := f3
  have F4 : Hid _ := f4
  have F5 : Hid _ := f5
  have F7 : Hid _ := f7
  clear f1 f2 f3 f4 f5 f7
  go_enter Tryz.func56, Tryz.ntmps56
  go_wp2_with (first
    | (go_at_call 76; refine (new_walk S _).mono ?_; rintro e w1 ⟨rfl, r0, k0⟩; have r0 : Rd w1 (w.heap.size + 1) S 0 := (by simpa using r0); have Z1 := k0.pg (Pg.alloc w 0 0 0 ⟨#[]⟩ 55); have k0 : Kept w w1 := ((Kept.refl w).alloc _).trans k0)
    | (go_at_call 77; with_reducible refine (F1.out _ _ r0).mono ?_; rintro e v1 ⟨rfl, r1, o1⟩)
    | (go_at_call 77; with_reducible refine (F2.out _ _ r1).mono ?_; rintro e v2 ⟨rfl, r2, o2⟩)
    | (go_at_call 77; with_reducible refine (F3.out _ _ r2).mono ?_; rintro e v3 ⟨rfl, r3, o3⟩; have o13 := (o1.trans o2).trans o3; have Z3 := o13.pg Z1 (by omega); have b3 := r3.lt; have z3 := Z3.lt; have r3a := ((Kept.refl v3).alloc (.cells #[.int .i64 (K : Nat), .int .i64 (N : Nat), .int .u64 (G : Nat), .string ⟨#[]⟩] 55)).rd r3; have P3 := Pg.alloc v3 K N G ⟨#[]⟩ 55; have Z3a := ((Kept.refl v3).alloc (.cells #[.int .i64 (K : Nat), .int .i64 (N : Nat), .int .u64 (G : Nat), .string ⟨#[]⟩] 55)).pg Z3)
    | (go_at_call 77; with_reducible refine (F4.out _ _ r3a).mono ?_; rintro e v4 ⟨rfl, r4, o4⟩)
    | (go_at_call 78; with_reducible refine (F5.out _ _ r4).mono ?_; rintro e v5 ⟨rfl, r5, o5⟩; have o45 := o4.trans o5; have P5 := o45.pg P3 (by omega); have Z5 := o45.pg Z3a (by omega); have z5 := P5.lt; have P6 := P5.set3 D; have Z6 : Pg (v5.setCell ⟨v3.heap.size, 3, none⟩ (.string D)) w.heap.size 0 0 0 ⟨#[]⟩ 55 := ⟨(heap_setCell_other v5 ⟨v3.heap.size, 3, none⟩ w.heap.size _ (by show w.heap.size ≠ v3.heap.size; omega)).trans Z5.out⟩; have r6 := r5.far ⟨v3.heap.size, 3, none⟩ (.string D) (by show w.heap.size + 1 ≠ v3.heap.size; omega); have cf := P5.fz 3; have c5 := P5.cs.2.2.2; obtain ⟨d0, d1, d2, d3⟩ := P6.cs; obtain ⟨⟨g0, h0⟩, ⟨g1, h1⟩, ⟨g2, h2⟩, g3, h3⟩ := Z6.ready 0 0 0)
    | (go_at_call 79; with_reducible refine (err_walk r6).mono ?_; rintro e v6 ⟨rfl, hv⟩; rw [hv]; clear hv)
    | (go_at_call 52; with_reducible refine (F7.out _).mono ?_; rintro e v7 ⟨rfl, q7⟩; have Z7 := q7.pg Z6; have P7 := q7.pg P6; obtain ⟨a0, a1, a2, a3⟩ := P7.cs; skip))
  refine bodyPost_ret (v := .tuple #[.agg #[.int .i64 0, .int .i64 0, .int .u64 0, .string ⟨#[]⟩], .int .i64 3]) ?_ rfl ⟨rfl, ?_⟩
  · exact results_two (p := 2) (u := 3) (ty := 55) rfl _ _ w.heap.size 55 #[.int .i64 0, .int .i64 0, .int .u64 0, .string ⟨#[]⟩] (0, 0) _ rfl (Z6.fill _ _ _ _).out Tryz.underlying55 rfl size55
  have hk : Kept w (v5.setCell ⟨v3.heap.size, 3, none⟩ (.string D)) := by
    refine Kept.set ?_ (by show w.heap.size ≤ v3.heap.size; omega) _
    exact o45.kept ((o13.kept k0 (by omega)).alloc _) (by omega)
  exact (((hk.set (Nat.le_refl _) _).set (Nat.le_refl _) _).set (Nat.le_refl _) _).set (Nat.le_refl _) _

set_option maxRecDepth 100000 in
set_option maxHeartbeats 2000000 in
theorem get_B (S S1 S2 S3 S4 S5 D P : ByteArray) (K N G C : Nat) (x1 x2 x3 x4 x5 : Int) (hK : K < 256) (hN : N < 4294967296) (hC : C < 65536)
    (f1 : ∀ W b, Rd W b S 0 → Calls Tryz.prog 77 #[.pointer (some ⟨b, 0, none⟩), .int .i64 1] W fun e w' => e = .returned (.int .u64 (K : Nat)) ∧ Rd w' b S1 x1 ∧ On b W w')
    (f2 : ∀ W b, Rd W b S1 x1 → Calls Tryz.prog 77 #[.pointer (some ⟨b, 0, none⟩), .int .i64 4] W fun e w' => e = .returned (.int .u64 (N : Nat)) ∧ Rd w' b S2 x2 ∧ On b W w')
    (f3 : ∀ W b, Rd W b S2 x2 → Calls Tryz.prog 77 #[.pointer (some ⟨b, 0, none⟩), .int .i64 8] W fun e w' => e = .returned (.int .u64 (G : Nat)) ∧ Rd w' b S3 x3 ∧ On b W w')
    (f4 : ∀ W b, Rd W b S3 x3 → Calls Tryz.prog 77 #[.pointer (some ⟨b, 0, none⟩), .int .i64 2] W fun e w' => e = .returned (.int .u64 (C : Nat)) ∧ Rd w' b S4 x4 ∧ On b W w')
    (f5 : ∀ W b, Rd W b S4 x4 → Calls Tryz.prog 78 #[.pointer (some ⟨b, 0, none⟩), .int .i64 (C : Nat)] W fun e w' => e = .returned (.string D) ∧ Rd w' b S5 x5 ∧ On b W w')
    (f7 : ∀ W, Calls Tryz.prog 52 #[.agg #[.int .i64 (K : Nat), .int .i64 (N : Nat), .int .u64 (G : Nat), .string D]] W fun e w' => e = .returned (.string P) ∧ Kept W w')
    (hx : (x5 != 0) = false) (hs : (S.toList == P.toList) = false) (w : World) :
    Calls Tryz.prog 56 #[.string S] w fun e w' => e = .returned (.tuple #[.agg #[.int .i64 0, .int .i64 0, .int .u64 0, .string ⟨#[]⟩], .int .i64 3]) ∧ Kept w w' := by
  have F1 : Hid _ := f1
  have F2 : Hid _ := f2
  have F3 : Hid _ := f3
  have F4 : Hid _ := f4
  have F5 : Hid _ := f5
  have F7 : Hid _ := f7
  clear f1 f2 f3 f4 f5 f7
  go_enter Tryz.func56, Tryz.ntmps56
  go_wp2_with (first
    | (go_at_call 76; refine (new_walk S _).mono ?_; rintro e w1 ⟨rfl, r0, k0⟩; have r0 : Rd w1 (w.heap.size + 1) S 0 := (by simpa using r0); have Z1 := k0.pg (Pg.alloc w 0 0 0 ⟨#[]⟩ 55); have k0 : Kept w w1 := ((Kept.refl w).alloc _).trans k0)
    | (go_at_call 77; with_reducible refine (F1.out _ _ r0).mono ?_; rintro e v1 ⟨rfl, r1, o1⟩)
    | (go_at_call 77; with_reducible refine (F2.out _ _ r1).mono ?_; rintro e v2 ⟨rfl, r2, o2⟩)
    | (go_at_call 77; with_reducible refine (F3.out _ _ r2).mono ?_; rintro e v3 ⟨rfl, r3, o3⟩; have o13 := (o1.trans o2).trans o3; have Z3 := o13.pg Z1 (by omega); have b3 := r3.lt; have z3 := Z3.lt; have r3a := ((Kept.refl v3).alloc (.cells #[.int .i64 (K : Nat), .int .i64 (N : Nat), .int .u64 (G : Nat), .string ⟨#[]⟩] 55)).rd r3; have P3 := Pg.alloc v3 K N G ⟨#[]⟩ 55; have Z3a := ((Kept.refl v3).alloc (.cells #[.int .i64 (K : Nat), .int .i64 (N : Nat), .int .u64 (G : Nat), .string ⟨#[]⟩] 55)).pg Z3)
    | (go_at_call 77; with_reducible refine (F4.out _ _ r3a).mono ?_; rintro e v4 ⟨rfl, r4, o4⟩)
    | (go_at_call 78; with_reducible refine (F5.out _ _ r4).mono ?_; rintro e v5 ⟨rfl, r5, o5⟩; have o45 := o4.trans o5; have P5 := o45.pg P3 (by omega); have Z5 := o45.pg Z3a (by omega); have z5 := P5.lt; have P6 := P5.set3 D; have Z6 : Pg (v5.setCell ⟨v3.heap.size, 3, none⟩ (.string D)) w.heap.size 0 0 0 ⟨#[]⟩ 55 := ⟨(heap_setCell_other v5 ⟨v3.heap.size, 3, none⟩ w.heap.size _ (by show w.heap.size ≠ v3.heap.size; omega)).trans Z5.out⟩; have r6 := r5.far ⟨v3.heap.size, 3, none⟩ (.string D) (by show w.heap.size + 1 ≠ v3.heap.size; omega); have cf := P5.fz 3; have c5 := P5.cs.2.2.2; obtain ⟨d0, d1, d2, d3⟩ := P6.cs)
    | (go_at_call 79; with_reducible refine (err_walk r6).mono ?_; rintro e v6 ⟨rfl, hv⟩; rw [hv]; clear hv)
    | (go_at_call 52; with_reducible refine (F7.out _).mono ?_; rintro e v7 ⟨rfl, q7⟩; have Z7 := q7.pg Z6; have P7 := q7.pg P6; obtain ⟨a0, a1, a2, a3⟩ := P7.cs; obtain ⟨⟨g0, h0⟩, ⟨g1, h1⟩, ⟨g2, h2⟩, g3, h3⟩ := Z7.ready 0 0 0))
  refine bodyPost_ret (v := .tuple #[.agg #[.int .i64 0, .int .i64 0, .int .u64 0, .string ⟨#[]⟩], .int .i64 3]) ?_ rfl ⟨rfl, ?_⟩
  · exact results_two (p := 2) (u := 3) (ty := 55) rfl _ _ w.heap.size 55 #[.int .i64 0, .int .i64 0, .int .u64 0, .string ⟨#[]⟩] (0, 0) _ rfl (Z7.fill _ _ _ _).out Tryz.underlying55 rfl size55
  have hk : Kept w (v5.setCell ⟨v3.heap.size, 3, none⟩ (.string D)) := by
    refine Kept.set ?_ (by show w.heap.size ≤ v3.heap.size; omega) _
    exact o45.kept ((o13.kept k0 (by omega)).alloc _) (by omega)
  exact ((((hk.trans q7).set (Nat.le_refl _) _).set (Nat.le_refl _) _).set (Nat.le_refl _) _).set (Nat.le_refl _) _

set_option maxRecDepth 100000 in
set_option maxHeartbeats 2000000 in
theorem get_C (S S1 S2 S3 S4 S5 D P : ByteArray) (K N G C : Nat) (x1 x2 x3 x4 x5 : Int) (hK : K < 256) (hN : N < 4294967296) (hC : C < 65536)
    (f1 : ∀ W b, Rd W b S 0 → Calls Tryz.prog 77 #[.pointer (some ⟨b, 0, none⟩), .int .i64 1] W fun e w' => e = .returned (.int .u64 (K : Nat)) ∧ Rd w' b S1 x1 ∧ On b W w')
    (f2 : ∀ W b, Rd W b S1 x1 → Calls Tryz.prog 77 #[.pointer (some ⟨b, 0, none⟩), .int .i64 4] W fun e w' => e = .returned (.int .u64 (N : Nat)) ∧ Rd w' b S2 x2 ∧ On b W w')
    (f3 : ∀ W b, Rd W b S2 x2 → Calls Tryz.prog 77 #[.pointer (some ⟨b, 0, none⟩), .int .i64 8] W fun e w' => e = .returned (.int .u64 (G : Nat)) ∧ Rd w' b S3 x3 ∧ On b W w')
    (f4 : ∀ W b, Rd W b S3 x3 → Calls Tryz.prog 77 #[.pointer (some ⟨b, 0, none⟩), .int .i64 2] W fun e w' => e = .returned (.int .u64 (C : Nat)) ∧ Rd w' b S4 x4 ∧ On b W w')
    (f5 : ∀ W b, Rd W b S4 x4 → Calls Tryz.prog 78 #[.pointer (some ⟨b, 0, none⟩), .int .i64 (C : Nat)] W fun e w' => e = .returned (.string D) ∧ Rd w' b S5 x5 ∧ On b W w')
    (f7 : ∀ W, Calls Tryz.prog 52 #[.agg #[.int .i64 (K : Nat), .int .i64 (N : Nat), .int .u64 (G : Nat), .string D]] W fun e w' => e = .returned (.string P) ∧ Kept W w')
    (hx : (x5 != 0) = false) (hs : (S.toList == P.toList) = true) (w : World) :
    Calls Tryz.prog 56 #[.string S] w fun e w' => e = .returned (.tuple #[.agg #[.int .i64 (K : Nat), .int .i64 (N : Nat), .int .u64 (G : Nat), .string D], .int .i64 0]) ∧ Kept w w' := by
  have F1 : Hid _ := f1
  have F2 : Hid _ := f2
  have F3 : Hid _ := f3
  have F4 : Hid _ := f4
  have F5 : Hid _ := f5
  have F7 : Hid _ := f7
  clear f1 f2 f3 f4 f5 f7
  go_enter Tryz.func56, Tryz.ntmps56
  go_wp2_with (first
    | (go_at_call 76; refine (new_walk S _).mono ?_; rintro e w1 ⟨rfl, r0, k0⟩; have r0 : Rd w1 (w.heap.size + 1) S 0 := (by simpa using r0); have Z1 := k0.pg (Pg.alloc w 0 0 0 ⟨#[]⟩ 55); have k0 : Kept w w1 := ((Kept.refl w).alloc _).trans k0)
    | (go_at_call 77; with_reducible refine (F1.out _ _ r0).mono ?_; rintro e v1 ⟨rfl, r1, o1⟩)
    | (go_at_call 77; with_reducible refine (F2.out _ _ r1).mono ?_; rintro e v2 ⟨rfl, r2, o2⟩)
    | (go_at_call 77; with_reducible refine (F3.out _ _ r2).mono ?_; rintro e v3 ⟨rfl, r3, o3⟩; have o13 := (o1.trans o2).trans o3; have Z3 := o13.pg Z1 (by omega); have b3 := r3.lt; have z3 := Z3.lt; have r3a := ((Kept.refl v3).alloc (.cells #[.int .i64 (K : Nat), .int .i64 (N : Nat), .int .u64 (G : Nat), .string ⟨#[]⟩] 55)).rd r3; have P3 := Pg.alloc v3 K N G ⟨#[]⟩ 55; have Z3a := ((Kept.refl v3).alloc (.cells #[.int .i64 (K : Nat), .int .i64 (N : Nat), .int .u64 (G : Nat), .string ⟨#[]⟩] 55)).pg Z3)
    | (go_at_call 77; with_reducible refine (F4.out _ _ r3a).mono ?_; rintro e v4 ⟨rfl, r4, o4⟩)
    | (go_at_call 78; with_reducible refine (F5.out _ _ r4).mono ?_; rintro e v5 ⟨rfl, r5, o5⟩; have o45 := o4.trans o5; have P5 := o45.pg P3 (by omega); have Z5 := o45.pg Z3a (by omega); have z5 := P5.lt; have P6 := P5.set3 D; have Z6 : Pg (v5.setCell ⟨v3.heap.size, 3, none⟩ (.string D)) w.heap.size 0 0 0 ⟨#[]⟩ 55 := ⟨(heap_setCell_other v5 ⟨v3.heap.size, 3, none⟩ w.heap.size _ (by show w.heap.size ≠ v3.heap.size; omega)).trans Z5.out⟩; have r6 := r5.far ⟨v3.heap.size, 3, none⟩ (.string D) (by show w.heap.size + 1 ≠ v3.heap.size; omega); have cf := P5.fz 3; have c5 := P5.cs.2.2.2; obtain ⟨d0, d1, d2, d3⟩ := P6.cs)
    | (go_at_call 79; with_reducible refine (err_walk r6).mono ?_; rintro e v6 ⟨rfl, hv⟩; rw [hv]; clear hv)
    | (go_at_call 52; with_reducible refine (F7.out _).mono ?_; rintro e v7 ⟨rfl, q7⟩; have Z7 := q7.pg Z6; have P7 := q7.pg P6; obtain ⟨a0, a1, a2, a3⟩ := P7.cs; obtain ⟨⟨g0, h0⟩, ⟨g1, h1⟩, ⟨g2, h2⟩, g3, h3⟩ := Z7.ready K N G))
  refine bodyPost_ret (v := .tuple #[.agg #[.int .i64 (K : Nat), .int .i64 (N : Nat), .int .u64 (G : Nat), .string D], .int .i64 0]) ?_ rfl ⟨rfl, ?_⟩
  · exact results_two (p := 2) (u := 3) (ty := 55) rfl _ _ w.heap.size 55 #[.int .i64 (K : Nat), .int .i64 (N : Nat), .int .u64 (G : Nat), .string D] (0, 0) _ rfl (Z7.fill _ _ _ _).out Tryz.underlying55 rfl size55
  have hk : Kept w (v5.setCell ⟨v3.heap.size, 3, none⟩ (.string D)) := by
    refine Kept.set ?_ (by show w.heap.size ≤ v3.heap.size; omega) _
    exact o45.kept ((o13.kept k0 (by omega)).alloc _) (by omega)
  exact ((((hk.trans q7).set (Nat.le_refl _) _).set (Nat.le_refl _) _).set (Nat.le_refl _) _).set (Nat.le_refl _) _

theorem pow_fits {m : List Nat} (h : Small m) {k : Nat} (hk : m.length ≤ k) : lowV m < 256 ^ k :=
  Nat.lt_of_lt_of_le (lowV_lt h) (Nat.pow_le_pow_right (by omega) hk)

theorem get_yes (s : List Nat) (hs : Small s) (ho : Okk s) (w : World) :
    Calls Tryz.prog 56 #[.string (bs s)] w fun e w' => e = .returned (.tuple #[.agg #[.int .i64 (fK s : Nat), .int .i64 (fN s : Nat), .int .u64 (fG s : Nat), .string (bs (fD s))], .int .i64 0]) ∧ Kept w w' := by
  rcases e1 : takeS (kOf 1) s 0 with ⟨m1, l1, x1⟩
  rcases e2 : takeS (kOf 4) l1 x1 with ⟨m2, l2, x2⟩
  rcases e3 : takeS (kOf 8) l2 x2 with ⟨m3, l3, x3⟩
  rcases e4 : takeS (kOf 2) l3 x3 with ⟨m4, l4, x4⟩
  rcases e5 : takeS (lowV m4) l4 x4 with ⟨m5, l5, x5⟩
  obtain ⟨s1, t1, n1, _, _⟩ := takeS_small hs e1
  obtain ⟨s2, t2, n2, _, _⟩ := takeS_small t1 e2
  obtain ⟨s3, t3, n3, _, _⟩ := takeS_small t2 e3
  obtain ⟨s4, t4, n4, _, _⟩ := takeS_small t3 e4
  obtain ⟨s5, t5, n5, _, _⟩ := takeS_small t4 e5
  have f1 := takeS_fine (.inl rfl) e1
  have f2 := takeS_fine f1 e2
  have f3 := takeS_fine f2 e3
  have f4 := takeS_fine f3 e4
  have hG : lowV m3 < 18446744073709551616 := pow_fits s3 n3
  have hx : x5 = 0 := by
    apply Classical.byContradiction
    intro hx
    exact get_none e1 e2 e3 e4 e5 hx ho.1
  obtain ⟨_, a1, a2, a3, a5⟩ := get_all e1 e2 e3 e4 e5 hx
  have hq := bs_eq hs (putL_small (lowV m1 : Int) (lowV m2 : Int) (lowV m3) s5)
  have hsd : s = putL (lowV m1 : Int) (lowV m2 : Int) (lowV m3) m5 := by rw [a1, a2, a3, a5]; exact ho.2
  rw [decide_eq_true hsd] at hq
  have := get_C (bs s) (bs l1) (bs l2) (bs l3) (bs l4) (bs l5) (bs m5) _ (lowV m1) (lowV m2) (lowV m3) (lowV m4) x1 x2 x3 x4 x5 (pow_fits s1 n1) (pow_fits s2 n2) (pow_fits s4 n4)
    (fun W b r => rfixed_any 1 s hs 0 (.inl rfl) e1 r) (fun W b r => rfixed_any 4 l1 t1 x1 f1 e2 r) (fun W b r => rfixed_any 8 l2 t2 x2 f2 e3 r) (fun W b r => rfixed_any 2 l3 t3 x3 f3 e4 r)
    (fun W b r => take_any _ l4 x4 f4 e5 r) (fun W => put_walk _ _ _ hG m5 W) (by rw [hx]; rfl) hq w
  rw [a1, a2, a3, a5] at this
  exact this

theorem get_no (s : List Nat) (hs : Small s) (ho : ¬ Okk s) (w : World) :
    Calls Tryz.prog 56 #[.string (bs s)] w fun e w' => e = .returned (.tuple #[.agg #[.int .i64 0, .int .i64 0, .int .u64 0, .string ⟨#[]⟩], .int .i64 3]) ∧ Kept w w' := by
  rcases e1 : takeS (kOf 1) s 0 with ⟨m1, l1, x1⟩
  rcases e2 : takeS (kOf 4) l1 x1 with ⟨m2, l2, x2⟩
  rcases e3 : takeS (kOf 8) l2 x2 with ⟨m3, l3, x3⟩
  rcases e4 : takeS (kOf 2) l3 x3 with ⟨m4, l4, x4⟩
  rcases e5 : takeS (lowV m4) l4 x4 with ⟨m5, l5, x5⟩
  obtain ⟨s1, t1, n1, _, _⟩ := takeS_small hs e1
  obtain ⟨s2, t2, n2, _, _⟩ := takeS_small t1 e2
  obtain ⟨s3, t3, n3, _, _⟩ := takeS_small t2 e3
  obtain ⟨s4, t4, n4, _, _⟩ := takeS_small t3 e4
  obtain ⟨s5, t5, n5, _, _⟩ := takeS_small t4 e5
  have f1 := takeS_fine (.inl rfl) e1
  have f2 := takeS_fine f1 e2
  have f3 := takeS_fine f2 e3
  have f4 := takeS_fine f3 e4
  have hG : lowV m3 < 18446744073709551616 := pow_fits s3 n3
  by_cases hx : x5 = 0
  · obtain ⟨h15, a1, a2, a3, a5⟩ := get_all e1 e2 e3 e4 e5 hx
    have hq := bs_eq hs (putL_small (lowV m1 : Int) (lowV m2 : Int) (lowV m3) s5)
    have hsd : ¬ s = putL (lowV m1 : Int) (lowV m2 : Int) (lowV m3) m5 := by rw [a1, a2, a3, a5]; exact fun h => ho ⟨h15, h⟩
    rw [decide_eq_false hsd] at hq
    exact get_B (bs s) (bs l1) (bs l2) (bs l3) (bs l4) (bs l5) (bs m5) _ (lowV m1) (lowV m2) (lowV m3) (lowV m4) x1 x2 x3 x4 x5 (pow_fits s1 n1) (pow_fits s2 n2) (pow_fits s4 n4)
      (fun W b r => rfixed_any 1 s hs 0 (.inl rfl) e1 r) (fun W b r => rfixed_any 4 l1 t1 x1 f1 e2 r) (fun W b r => rfixed_any 8 l2 t2 x2 f2 e3 r) (fun W b r => rfixed_any 2 l3 t3 x3 f3 e4 r)
      (fun W b r => take_any _ l4 x4 f4 e5 r) (fun W => put_walk _ _ _ hG m5 W) (by rw [hx]; rfl) hq w
  · have hx' : (x5 != 0) = true := by simp [hx]
    exact get_A (bs s) (bs l1) (bs l2) (bs l3) (bs l4) (bs l5) (bs m5) _ (lowV m1) (lowV m2) (lowV m3) (lowV m4) x1 x2 x3 x4 x5 (pow_fits s1 n1) (pow_fits s2 n2) (pow_fits s4 n4)
      (fun W b r => rfixed_any 1 s hs 0 (.inl rfl) e1 r) (fun W b r => rfixed_any 4 l1 t1 x1 f1 e2 r) (fun W b r => rfixed_any 8 l2 t2 x2 f2 e3 r) (fun W b r => rfixed_any 2 l3 t3 x3 f3 e4 r)
      (fun W b r => take_any _ l4 x4 f4 e5 r) (fun W => put_walk _ _ _ hG m5 W) hx' w
end Go.Proofs.YthlhnjjofefgcaaGreatDoor.P
