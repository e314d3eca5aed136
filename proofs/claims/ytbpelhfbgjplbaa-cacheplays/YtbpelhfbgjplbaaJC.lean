/- What is held, in memory: blocks that lead to one another; the walks of leave and enter. Conditions: those that each row names. -/
import Derived.Test.YtbpelhfbgjplbaaJB
namespace Go.Proofs.Ytbpelhfbgjplbaa.Ca
open Go.ChangeShapes Go.WideShapes Go.ChangeAt Go.RowKit
open N (Kept)
open Q (kept_cell)

/-- A key that is held. -/
structure It where
  k : ByteArray
  t : ByteArray
  i : Bool
  o : Nat
  n : Nat
def It.cells (x : It) : Array Value := #[.string x.k, .string x.t, .bool x.i, .pointer (some ⟨x.o, 0, none⟩), .pointer (some ⟨x.n, 0, none⟩)]
def upd (G : Nat → Option It) (a : Nat) (x : It) : Nat → Option It := fun y => if y = a then some x else G y
theorem upd_eq (G : Nat → Option It) (a : Nat) (x : It) : upd G a x a = some x := if_pos rfl
theorem upd_ne (G : Nat → Option It) {a y : Nat} (x : It) (h : y ≠ a) : upd G a x y = G y := if_neg h
/-- They, in memory. -/
structure IA (w : World) (G : Nat → Option It) : Prop where
  out : ∀ b x, G b = some x → w.heap[b]? = some (.cells x.cells 56)
theorem IA.c {w : World} {G : Nat → Option It} (h : IA w G) {b : Nat} {x : It} (hb : G b = some x) :
    w.cell? ⟨b, 0, none⟩ = some (.string x.k) ∧ w.cell? ⟨b, 1, none⟩ = some (.string x.t) ∧ w.cell? ⟨b, 2, none⟩ = some (.bool x.i) ∧ w.cell? ⟨b, 3, none⟩ = some (.pointer (some ⟨x.o, 0, none⟩)) ∧ w.cell? ⟨b, 4, none⟩ = some (.pointer (some ⟨x.n, 0, none⟩)) := by
  have e := h.out b x hb
  refine ⟨?_, ?_, ?_, ?_, ?_⟩ <;> (rw [cell_of_row w b _ _ _ _ e]; rfl)
theorem IA.f {w : World} {G : Nat → Option It} (h : IA w G) {b : Nat} {x : It} (hb : G b = some x) (j : Nat) : w.frozen? ⟨b, j, none⟩ = false := frozen_of_row w b j _ _ (h.out b x hb)
theorem IA.kept {w w' : World} {G : Nat → Option It} (h : IA w G) (k : Kept w w') : IA w' G := ⟨fun b x hb => k.block (h.out b x hb)⟩
/-- A cell of one of them turns. -/
theorem IA.set {w : World} {G : Nat → Option It} (h : IA w G) {b : Nat} {x y : It} (hb : G b = some x) (i : Nat) (v : Value) (hy : x.cells.setIfInBounds i v = y.cells) : IA (w.setCell ⟨b, i, none⟩ v) (upd G b y) := by
  refine ⟨fun c z hz => ?_⟩
  by_cases e : c = b
  · subst e
    rw [upd_eq] at hz
    obtain rfl := Option.some.inj hz
    rw [heap_setCell_same w c i _ _ _ (h.out c x hb)]
    rw [← hy]
  · rw [upd_ne _ _ e] at hz
    rw [heap_setCell_other w ⟨b, i, none⟩ c _ e]
    exact h.out c z hz

/-- From B on what is held may turn; all else is as it was. -/
structure Fi (B : Nat) (w w' : World) : Prop where
  low : Below B w w'
  oth : ∀ (k : Nat) (o : Obj), w.heap[k]? = some o → (∀ cs fr, o ≠ .cells cs 56 fr) → w'.heap[k]? = some o
theorem Fi.refl (B : Nat) (w : World) : Fi B w w := ⟨Below.refl _ _, fun _ _ h _ => h⟩
theorem Fi.trans {B : Nat} {a b c : World} (h : Fi B a b) (k : Fi B b c) : Fi B a c := ⟨h.low.trans k.low, fun n o e h1 => k.oth n o (h.oth n o e h1) h1⟩
theorem Fi.of {w w' : World} (h : Kept w w') {B : Nat} (hB : B ≤ w.heap.size) : Fi B w w' := ⟨h.out.mono hB, fun _ _ e _ => h.block e⟩
theorem Fi.set {B : Nat} {w w' : World} (h : Fi B w w') {G : Nat → Option It} (a : IA w' G) {b : Nat} {x : It} (hb : G b = some x) (hB : B ≤ b) (i : Nat) (v : Value) : Fi B w (w'.setCell ⟨b, i, none⟩ v) := by
  refine ⟨h.low.setCell (p := ⟨b, i, none⟩) hB v, fun k o e h1 => ?_⟩
  have h2 := h.oth k o e h1
  rw [heap_setCell_other w' ⟨b, i, none⟩ k _ ?_]
  · exact h2
  · intro e2
    subst e2
    rw [a.out _ x hb] at h2
    injection h2 with h2
    exact h1 _ _ h2.symm

/-- What is none of these stays. -/
structure Fg (G : Nat → Option It) (w w' : World) : Prop where
  out : ∀ (k : Nat) (o : Obj), w.heap[k]? = some o → G k = none → w'.heap[k]? = some o
theorem Fg.refl (G : Nat → Option It) (w : World) : Fg G w w := ⟨fun _ _ h _ => h⟩
theorem Fg.set {G : Nat → Option It} {w w' : World} (h : Fg G w w') {b : Nat} {x : It} (hb : G b = some x) (i : Nat) (v : Value) : Fg G w (w'.setCell ⟨b, i, none⟩ v) := by
  refine ⟨fun k o e h1 => ?_⟩
  rw [heap_setCell_other w' ⟨b, i, none⟩ k _ ?_]
  · exact h.out k o e h1
  · intro e2
    have e3 : k = b := e2
    subst e3
    rw [h1] at hb; cases hb
theorem Fg.drew {G : Nat → Option It} {w w' : World} (h : Fg G w w') : Fg G w w'.drew := ⟨h.out⟩

def nx (G : Nat → Option It) (b : Nat) : Nat := match G b with | some x => x.n | none => 0
def pv (G : Nat → Option It) (b : Nat) : Nat := match G b with | some x => x.o | none => 0
theorem nx_eq {G : Nat → Option It} {b : Nat} {x : It} (h : G b = some x) : nx G b = x.n := by unfold nx; rw [h]
theorem pv_eq {G : Nat → Option It} {b : Nat} {x : It} (h : G b = some x) : pv G b = x.o := by unfold pv; rw [h]

/-- Another one is newer, or older, from now on. -/
def sN (G : Nat → Option It) (a v : Nat) : Nat → Option It := fun y => if y = a then (G a).map (fun x => { x with n := v }) else G y
def sO (G : Nat → Option It) (a v : Nat) : Nat → Option It := fun y => if y = a then (G a).map (fun x => { x with o := v }) else G y
theorem sN_upd {G : Nat → Option It} {a v : Nat} {x : It} (h : G a = some x) : sN G a v = upd G a { x with n := v } := by
  funext y; unfold sN upd; rw [h]; rfl
theorem sO_upd {G : Nat → Option It} {a v : Nat} {x : It} (h : G a = some x) : sO G a v = upd G a { x with o := v } := by
  funext y; unfold sO upd; rw [h]; rfl
theorem sN_at {G : Nat → Option It} (a v : Nat) {b : Nat} {x : It} (h : G b = some x) : ∃ y, sN G a v b = some y ∧ y.k = x.k ∧ y.t = x.t ∧ y.i = x.i ∧ y.o = x.o ∧ y.n = if b = a then v else x.n := by
  unfold sN
  by_cases e : b = a
  · subst e; rw [if_pos rfl, if_pos rfl, h]; exact ⟨_, rfl, rfl, rfl, rfl, rfl, rfl⟩
  · rw [if_neg e, if_neg e]; exact ⟨x, h, rfl, rfl, rfl, rfl, rfl⟩
theorem sO_at {G : Nat → Option It} (a v : Nat) {b : Nat} {x : It} (h : G b = some x) : ∃ y, sO G a v b = some y ∧ y.k = x.k ∧ y.t = x.t ∧ y.i = x.i ∧ y.n = x.n ∧ y.o = if b = a then v else x.o := by
  unfold sO
  by_cases e : b = a
  · subst e; rw [if_pos rfl, if_pos rfl, h]; exact ⟨_, rfl, rfl, rfl, rfl, rfl, rfl⟩
  · rw [if_neg e, if_neg e]; exact ⟨x, h, rfl, rfl, rfl, rfl, rfl⟩
theorem IA.sN {w : World} {G : Nat → Option It} (h : IA w G) {a : Nat} {x : It} (ha : G a = some x) (v : Nat) : IA (w.setCell ⟨a, 4, none⟩ (.pointer (some ⟨v, 0, none⟩))) (sN G a v) := by
  rw [sN_upd ha]; exact h.set ha 4 _ rfl
theorem IA.sO {w : World} {G : Nat → Option It} (h : IA w G) {a : Nat} {x : It} (ha : G a = some x) (v : Nat) : IA (w.setCell ⟨a, 3, none⟩ (.pointer (some ⟨v, 0, none⟩))) (sO G a v) := by
  rw [sO_upd ha]; exact h.set ha 3 _ rfl
theorem Fi.drew {B : Nat} {w w' : World} (h : Fi B w w') : Fi B w w'.drew := ⟨h.low.drew, fun k o e h1 => h.oth k o e h1⟩

theorem other1 {w : World} {b j : Nat} {a : Addr} {u : Value} (v : Value) (h : b ≠ a.block) (c : w.cell? ⟨b, j, none⟩ = some u) : (w.setCell a v).cell? ⟨b, j, none⟩ = some u := by
  rw [World.cell?_of_block (heap_setCell_other w a b v h)]; exact c
theorem other2 {w : World} {b i j : Nat} {a : Addr} {u u' : Value} (v : Value) (h : b ≠ a.block) (c : w.cell? ⟨b, i, none⟩ = some u) (c' : w.cell? ⟨b, j, none⟩ = some u') : (w.setCell a v).cell? ⟨b, i, none⟩ = some u ∧ (w.setCell a v).cell? ⟨b, j, none⟩ = some u' := ⟨other1 v h c, other1 v h c'⟩

set_option maxRecDepth 100000 in
set_option maxHeartbeats 2000000 in
theorem leave_walk {w : World} {B : Nat} {G : Nat → Option It} (h : IA w G) {b o n : Nat} {x y z : It} (hb : G b = some x) (eo : x.o = o) (en : x.n = n) (hy : G o = some y) (hz : G n = some z) (ho : o ≠ b) (hn : n ≠ b) (hB1 : B ≤ o) (hB2 : B ≤ n) :
    Calls Try.prog 34 #[.pointer (some ⟨b, 0, none⟩)] w fun e w' => e = .returned (.tuple #[]) ∧ IA w' (sO (sN G o n) n o) ∧ Fi B w w' ∧ Fg G w w' := by
  obtain ⟨_, _, _, c3, c4⟩ := h.c hb
  rw [eo] at c3
  rw [en] at c4
  obtain ⟨_, _, _, _, d4⟩ := h.c hy
  have f4 := h.f hy 4
  obtain ⟨_, _, _, e3, _⟩ := h.c hz
  have f3 := h.f hz 3
  have hw2 := h.sN hy n
  obtain ⟨z', hz', _⟩ := sN_at o n hz
  have FI : Hid (IA ((w.setCell ⟨o, 4, none⟩ (.pointer (some ⟨n, 0, none⟩))).setCell ⟨n, 3, none⟩ (.pointer (some ⟨o, 0, none⟩))).drew (sO (sN G o n) n o) ∧ Fi B w ((w.setCell ⟨o, 4, none⟩ (.pointer (some ⟨n, 0, none⟩))).setCell ⟨n, 3, none⟩ (.pointer (some ⟨o, 0, none⟩))).drew ∧ Fg G w ((w.setCell ⟨o, 4, none⟩ (.pointer (some ⟨n, 0, none⟩))).setCell ⟨n, 3, none⟩ (.pointer (some ⟨o, 0, none⟩))).drew) :=
    ⟨(hw2.sO hz' o).kept (Kept.refl _).drew, (((Fi.refl B w).set h hy hB1 4 _).set hw2 hz' hB2 3 _).drew, (((Fg.refl G w).set hy 4 _).set hz 3 _).drew⟩
  have k1 := other2 (w := w) (b := b) (a := ⟨o, 4, none⟩) (.pointer (some ⟨n, 0, none⟩)) (Ne.symm ho) c3 c4
  have k2 := other2 (b := b) (a := ⟨n, 3, none⟩) (.pointer (some ⟨o, 0, none⟩)) (Ne.symm hn) k1.1 k1.2
  have K1 : Hid _ := k1
  have K2 : Hid _ := k2
  clear hw2 h hb hy hz hz' k1 k2
  go_enter Try.func34, Try.ntmps34
  go_wp2_with fail
  go_region_held3 (fun W => W.cell? ⟨b, 3, none⟩ = some (.pointer (some ⟨o, 0, none⟩)) ∧ W.cell? ⟨b, 4, none⟩ = some (.pointer (some ⟨n, 0, none⟩))) (first | exact ⟨c3, c4⟩ | exact K1.out | exact K2.out | go_keep) (first | fail)
  all_goals go_end0
  all_goals exact ⟨rfl, FI.out⟩
end Go.Proofs.Ytbpelhfbgjplbaa.Ca
