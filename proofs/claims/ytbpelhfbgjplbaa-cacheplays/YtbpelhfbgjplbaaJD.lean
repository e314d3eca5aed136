/- The walks of enter and renew. Conditions: those that each row names. -/
import Derived.Test.YtbpelhfbgjplbaaJC
namespace Go.Proofs.Ytbpelhfbgjplbaa.Ca
open Go.ChangeShapes Go.WideShapes Go.ChangeAt Go.RowKit
open N (Kept)
open Q (kept_cell)

/-- What a cache's cells are. -/
structure Cc where
  b : Nat
  m : Int
  mh : Nat
  mc : Nat
  e : Nat
  r : Int
  x : Int
def Cc.cells (q : Cc) : Array Value := #[.iface 23 (.pointer (some ⟨q.b, 0, none⟩)), .int .i64 q.m, .map (some q.mh), .map (some q.mc), .pointer (some ⟨q.e, 0, none⟩), .int .i64 q.r, .int .i64 q.x]
structure CB (w : World) (p : Nat) (q : Cc) : Prop where
  out : w.heap[p]? = some (.cells q.cells 59)
theorem CB.c {w : World} {p : Nat} {q : Cc} (h : CB w p q) :
    w.cell? ⟨p, 0, none⟩ = some (.iface 23 (.pointer (some ⟨q.b, 0, none⟩))) ∧ w.cell? ⟨p, 1, none⟩ = some (.int .i64 q.m) ∧ w.cell? ⟨p, 2, none⟩ = some (.map (some q.mh)) ∧ w.cell? ⟨p, 3, none⟩ = some (.map (some q.mc)) ∧
    w.cell? ⟨p, 4, none⟩ = some (.pointer (some ⟨q.e, 0, none⟩)) ∧ w.cell? ⟨p, 5, none⟩ = some (.int .i64 q.r) ∧ w.cell? ⟨p, 6, none⟩ = some (.int .i64 q.x) := by
  refine ⟨?_, ?_, ?_, ?_, ?_, ?_, ?_⟩ <;> (rw [cell_of_row w p _ _ _ _ h.out]; rfl)
theorem CB.f {w : World} {p : Nat} {q : Cc} (h : CB w p q) (j : Nat) : w.frozen? ⟨p, j, none⟩ = false := frozen_of_row w p j _ _ h.out
theorem CB.kept {w w' : World} {p : Nat} {q : Cc} (h : CB w p q) (k : Kept w w') : CB w' p q := ⟨k.block h.out⟩
theorem CB.fi {B : Nat} {w w' : World} {p : Nat} {q : Cc} (h : CB w p q) (k : Fi B w w') : CB w' p q := ⟨k.oth _ _ h.out (fun _ _ e => by injection e with _ e2 _; exact absurd e2 (by decide))⟩
theorem CB.ne {w : World} {p : Nat} {q : Cc} {G : Nat → Option It} (h : CB w p q) (a : IA w G) {b : Nat} {x : It} (hb : G b = some x) : p ≠ b := by
  intro e
  have h1 := h.out
  rw [e, a.out _ _ hb] at h1
  injection h1 with h1
  injection h1 with _ e2 _
  exact absurd e2 (by decide)

/-- A key that is held, wherever it leads. -/
structure Il (w : World) (b : Nat) (k t : ByteArray) (i : Bool) : Prop where
  out : ∃ u v, w.heap[b]? = some (.cells #[.string k, .string t, .bool i, u, v] 56)
theorem IA.fill {w : World} {G : Nat → Option It} (h : IA w G) {b : Nat} {k t : ByteArray} {i : Bool} {u v : Value} (hb : w.heap[b]? = some (.cells #[.string k, .string t, .bool i, u, v] 56)) (n e : Nat) :
    IA ((w.setCell ⟨b, 3, none⟩ (.pointer (some ⟨n, 0, none⟩))).setCell ⟨b, 4, none⟩ (.pointer (some ⟨e, 0, none⟩))) (upd G b ⟨k, t, i, n, e⟩) := by
  have e1 : (w.setCell ⟨b, 3, none⟩ (.pointer (some ⟨n, 0, none⟩))).heap[b]? = some (.cells #[.string k, .string t, .bool i, .pointer (some ⟨n, 0, none⟩), v] 56) := by rw [heap_setCell_same w b 3 _ _ _ hb]; rfl
  refine ⟨fun c z hz => ?_⟩
  by_cases e2 : c = b
  · subst e2
    rw [upd_eq] at hz
    obtain rfl := Option.some.inj hz
    rw [heap_setCell_same _ c 4 _ _ _ e1]; rfl
  · rw [upd_ne _ _ e2] at hz
    rw [heap_setCell_other _ ⟨b, 4, none⟩ c _ e2, heap_setCell_other _ ⟨b, 3, none⟩ c _ e2]
    exact h.out c z hz
theorem Fi.fill {B : Nat} {w : World} {b : Nat} {cs : Array Value} {fr : Nat × Nat} (hb : w.heap[b]? = some (.cells cs 56 fr)) (hB : B ≤ b) (x y : Value) : Fi B w ((w.setCell ⟨b, 3, none⟩ x).setCell ⟨b, 4, none⟩ y) := by
  refine ⟨((Below.refl B w).setCell (p := ⟨b, 3, none⟩) hB x).setCell (p := ⟨b, 4, none⟩) hB y, fun k o e h1 => ?_⟩
  have hk : k ≠ b := by
    rintro rfl
    rw [hb] at e
    injection e with e
    exact h1 _ _ e.symm
  rw [heap_setCell_other _ ⟨b, 4, none⟩ k _ hk, heap_setCell_other _ ⟨b, 3, none⟩ k _ hk]
  exact e

set_option maxRecDepth 100000 in
set_option maxHeartbeats 4000000 in
theorem enter_walk {w : World} {B p : Nat} {q : Cc} {G : Nat → Option It} (hc : CB w p q) (h : IA w G) {b e n : Nat} {k t : ByteArray} {i : Bool} {y z : It} (hqe : q.e = e) (hb : Il w b k t i) (hy : G e = some y) (en : y.o = n) (hz : G n = some z) (he : e ≠ b) (hn : n ≠ b) (hB : B ≤ b) (hB1 : B ≤ e) (hB2 : B ≤ n) :
    Calls Try.prog 33 #[.pointer (some ⟨p, 0, none⟩), .pointer (some ⟨b, 0, none⟩)] w fun r w' => r = .returned (.tuple #[]) ∧ IA w' (sO (sN (upd G b ⟨k, t, i, n, e⟩) n b) e b) ∧ Fi B w w' ∧ ∀ (c : Nat) (o : Obj), c ≠ b → w.heap[c]? = some o → G c = none → w'.heap[c]? = some o := by
  obtain ⟨u, v, hblk⟩ := hb.out
  have hpb : p ≠ b := by
    rintro rfl
    have h1 := hc.out
    rw [hblk] at h1
    injection h1 with h1
    injection h1 with _ e2 _
    exact absurd e2 (by decide)
  obtain ⟨_, _, _, _, c4, _, _⟩ := hc.c
  rw [hqe] at c4
  have b3 : w.cell? ⟨b, 3, none⟩ = some u := by rw [cell_of_row w b 3 _ _ _ hblk]; rfl
  have b4 : w.cell? ⟨b, 4, none⟩ = some v := by rw [cell_of_row w b 4 _ _ _ hblk]; rfl
  have fb3 := frozen_of_row w b 3 _ _ hblk
  have fb4 := frozen_of_row w b 4 _ _ hblk
  obtain ⟨_, _, _, y3, _⟩ := h.c hy
  rw [en] at y3
  have k1 : (w.setCell ⟨b, 3, none⟩ (.pointer (some ⟨n, 0, none⟩))).cell? ⟨p, 4, none⟩ = some (.pointer (some ⟨e, 0, none⟩)) ∧ (w.setCell ⟨b, 3, none⟩ (.pointer (some ⟨n, 0, none⟩))).cell? ⟨e, 3, none⟩ = some (.pointer (some ⟨n, 0, none⟩)) := ⟨other1 (a := ⟨b, 3, none⟩) _ hpb c4, other1 (a := ⟨b, 3, none⟩) _ he y3⟩
  have k2 : ((w.setCell ⟨b, 3, none⟩ (.pointer (some ⟨n, 0, none⟩))).setCell ⟨b, 4, none⟩ (.pointer (some ⟨e, 0, none⟩))).cell? ⟨p, 4, none⟩ = some (.pointer (some ⟨e, 0, none⟩)) ∧ ((w.setCell ⟨b, 3, none⟩ (.pointer (some ⟨n, 0, none⟩))).setCell ⟨b, 4, none⟩ (.pointer (some ⟨e, 0, none⟩))).cell? ⟨e, 3, none⟩ = some (.pointer (some ⟨n, 0, none⟩)) := ⟨other1 (a := ⟨b, 4, none⟩) _ hpb k1.1, other1 (a := ⟨b, 4, none⟩) _ he k1.2⟩
  have K1 : Hid _ := k1
  have K2 : Hid _ := k2
  have H3 : Hid (∀ W, W = ((w.setCell ⟨b, 3, none⟩ (.pointer (some ⟨n, 0, none⟩))).setCell ⟨b, 4, none⟩ (.pointer (some ⟨e, 0, none⟩))).drew → IA W (upd G b ⟨k, t, i, n, e⟩) ∧ Fi B w W ∧ ∀ (c : Nat) (o : Obj), c ≠ b → w.heap[c]? = some o → W.heap[c]? = some o) := fun W hW => by
    subst hW
    refine ⟨(h.fill hblk n e).kept (Kept.refl _).drew, (Fi.fill hblk hB _ _).drew, fun c o hc ho => ?_⟩
    show ((w.setCell ⟨b, 3, none⟩ (.pointer (some ⟨n, 0, none⟩))).setCell ⟨b, 4, none⟩ (.pointer (some ⟨e, 0, none⟩))).heap[c]? = some o
    rw [heap_setCell_other _ ⟨b, 4, none⟩ c _ hc, heap_setCell_other _ ⟨b, 3, none⟩ c _ hc]
    exact ho
  -- behind the first statement
  have R : Hid (∃ x2 y2 z2, upd G b ⟨k, t, i, n, e⟩ b = some x2 ∧ x2.o = n ∧ x2.n = e ∧ upd G b ⟨k, t, i, n, e⟩ e = some y2 ∧ upd G b ⟨k, t, i, n, e⟩ n = some z2) :=
    ⟨⟨k, t, i, n, e⟩, y, z, upd_eq _ _ _, rfl, rfl, by rw [upd_ne _ _ he]; exact hy, by rw [upd_ne _ _ hn]; exact hz⟩
  have RG : Hid (∀ c, c ≠ b → G c = none → upd G b ⟨k, t, i, n, e⟩ c = none) := fun c h1 h2 => by rw [upd_ne _ _ h1]; exact h2
  clear hblk hb hy hz k1 k2 h hc
  go_enter Try.func33, Try.ntmps33
  go_wp2_with fail
  go_region_held3 (fun W => W.cell? ⟨p, 4, none⟩ = some (.pointer (some ⟨e, 0, none⟩)) ∧ W.cell? ⟨e, 3, none⟩ = some (.pointer (some ⟨n, 0, none⟩))) (first | exact ⟨c4, y3⟩ | exact K1.out | exact K2.out | go_keep) (first | fail)
  all_goals generalize hW : ((w.setCell ⟨b, 3, none⟩ (.pointer (some ⟨n, 0, none⟩))).setCell ⟨b, 4, none⟩ (.pointer (some ⟨e, 0, none⟩))).drew = W1
  all_goals obtain ⟨h, F1, O1⟩ := H3.out W1 hW.symm
  all_goals have HO1 : Hid (∀ (c : Nat) (o : Obj), c ≠ b → w.heap[c]? = some o → W1.heap[c]? = some o) := O1
  all_goals clear O1
  all_goals clear hW H3 K1 K2 c4 y3 b3 b4 fb3 fb4
  all_goals obtain ⟨x2, y2, z2, hb, eo, en, hy, hz⟩ := R.out
  all_goals clear R
  all_goals generalize hG : upd G b ⟨k, t, i, n, e⟩ = G1 at *
  all_goals have HG : Hid (upd G b ⟨k, t, i, n, e⟩ = G1) := hG
  all_goals clear hG
  all_goals
    obtain ⟨_, _, _, c3, c4⟩ := h.c hb
    rw [eo] at c3
    rw [en] at c4
    obtain ⟨_, _, _, _, d4⟩ := h.c hz
    have f4 := h.f hz 4
    obtain ⟨_, _, _, e3, _⟩ := h.c hy
    have f3 := h.f hy 3
    have hw2 := h.sN hz b
    obtain ⟨z', hz', _⟩ := sN_at n b hy
    have FI : Hid (IA ((W1.setCell ⟨n, 4, none⟩ (.pointer (some ⟨b, 0, none⟩))).setCell ⟨e, 3, none⟩ (.pointer (some ⟨b, 0, none⟩))).drew (sO (sN G1 n b) e b) ∧ Fi B w ((W1.setCell ⟨n, 4, none⟩ (.pointer (some ⟨b, 0, none⟩))).setCell ⟨e, 3, none⟩ (.pointer (some ⟨b, 0, none⟩))).drew ∧ ∀ (c : Nat) (o : Obj), c ≠ b → w.heap[c]? = some o → G c = none → ((W1.setCell ⟨n, 4, none⟩ (.pointer (some ⟨b, 0, none⟩))).setCell ⟨e, 3, none⟩ (.pointer (some ⟨b, 0, none⟩))).drew.heap[c]? = some o) :=
      ⟨(hw2.sO hz' b).kept (Kept.refl _).drew, ((F1.set h hz hB2 4 _).set hw2 hz' hB1 3 _).drew, fun c o hc ho hg => (((Fg.refl G1 W1).set hz 4 _).set hy 3 _).drew.out c o (HO1.out c o hc ho) (RG.out c hc hg)⟩
    have k1 := other2 (w := W1) (b := b) (a := ⟨n, 4, none⟩) (.pointer (some ⟨b, 0, none⟩)) (Ne.symm hn) c3 c4
    have k2 := other2 (b := b) (a := ⟨e, 3, none⟩) (.pointer (some ⟨b, 0, none⟩)) (Ne.symm he) k1.1 k1.2
    have K1 : Hid _ := k1
    have K2 : Hid _ := k2
    clear hw2 h hb hy hz hz' k1 k2 F1
    go_wp2_with fail
    go_region_held3 (fun W => W.cell? ⟨b, 3, none⟩ = some (.pointer (some ⟨n, 0, none⟩)) ∧ W.cell? ⟨b, 4, none⟩ = some (.pointer (some ⟨e, 0, none⟩))) (first | exact ⟨c3, c4⟩ | exact K1.out | exact K2.out | go_keep) (first | fail)
  all_goals go_end0
  all_goals (rw [HG.out]; exact ⟨rfl, FI.out⟩)
end Go.Proofs.Ytbpelhfbgjplbaa.Ca
