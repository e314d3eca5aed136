/- The walks of a queue's end, and said; lines in memory. Conditions: those that each row names. -/
import Derived.Test.YtabbfoaojmhajaaQGb
namespace Go.Proofs.Ytabbfoaojmhajaa.Q
open Go.ChangeShapes Go.WideShapes Go.ChangeAt Go.RowKit
open N (Kept bs numL keyL Small Rd On)

theorem results_two {P : Program} {fn : Func} {p u : Tmp} {ty : TypeId} (h : fn.results = #[.cell p ty, .tmp u]) (tmps : Array Value) (w : World) (g : Nat) (t : TypeId) (cs : Array Value) (fr : Nat × Nat) (d : TypeDesc)
    (hp : tmps.getD p undef = .pointer (some ⟨g, 0, none⟩)) (hg : w.heap[g]? = some (.cells cs t fr))
    (hu : P.underlying ty = some d) (hd : (match d with | .struct _ | .array _ _ => true | _ => false) = true) (hi : (P.info? ty).map (·.size) = some cs.size) :
    (results fn tmps).run P w = .ok (.tuple #[.agg cs, tmps.getD u undef]) w := by
  rw [results_cell_tmp h, hp]
  simp [asAddr, run_loadVar_row w g t ty cs fr d hg hu hd hi]
theorem size53 : (Try.prog.info? 53).map (·.size) = some 4 := by kernel_rfl

/-- A line in memory. -/
structure L4 (w : World) (b : Nat) (x0 x1 x2 x3 : Int) : Prop where
  out : w.heap[b]? = some (.cells #[.int .u64 x0, .int .u64 x1, .int .u64 x2, .int .u64 x3] 53)
theorem L4.cs {w : World} {b : Nat} {x0 x1 x2 x3 : Int} (k : L4 w b x0 x1 x2 x3) : w.cell? ⟨b, 0, none⟩ = some (.int .u64 x0) ∧ w.cell? ⟨b, 1, none⟩ = some (.int .u64 x1) ∧ w.cell? ⟨b, 2, none⟩ = some (.int .u64 x2) ∧ w.cell? ⟨b, 3, none⟩ = some (.int .u64 x3) :=
  ⟨by rw [cell_of_row w b 0 _ _ _ k.out]; rfl, by rw [cell_of_row w b 1 _ _ _ k.out]; rfl, by rw [cell_of_row w b 2 _ _ _ k.out]; rfl, by rw [cell_of_row w b 3 _ _ _ k.out]; rfl⟩
theorem L4.fz {w : World} {b : Nat} {x0 x1 x2 x3 : Int} (k : L4 w b x0 x1 x2 x3) (j : Nat) : w.frozen? ⟨b, j, none⟩ = false := frozen_of_row w b j _ _ k.out
theorem L4.kept {w w' : World} {b : Nat} {x0 x1 x2 x3 : Int} (k : L4 w b x0 x1 x2 x3) (h : Kept w w') : L4 w' b x0 x1 x2 x3 := ⟨h.block k.out⟩
theorem L4.vn {w w' : World} {B b : Nat} {x0 x1 x2 x3 : Int} (k : L4 w b x0 x1 x2 x3) (h : Vn B w w') : L4 w' b x0 x1 x2 x3 := ⟨h.oth _ _ _ _ k.out (by decide) (by decide)⟩
theorem L4.made (w : World) (x0 x1 x2 x3 : Int) : L4 (w.alloc (.cells #[.int .u64 x0, .int .u64 x1, .int .u64 x2, .int .u64 x3] 53)) w.heap.size x0 x1 x2 x3 := ⟨heap_alloc_new w _⟩
theorem L4.set0 {w : World} {b : Nat} {x0 x1 x2 x3 : Int} (k : L4 w b x0 x1 x2 x3) (y : Int) : L4 (w.setCell ⟨b, 0, none⟩ (.int .u64 y)) b y x1 x2 x3 := ⟨by rw [heap_setCell_same w b 0 _ _ _ k.out]; rfl⟩
theorem L4.set1 {w : World} {b : Nat} {x0 x1 x2 x3 : Int} (k : L4 w b x0 x1 x2 x3) (y : Int) : L4 (w.setCell ⟨b, 1, none⟩ (.int .u64 y)) b x0 y x2 x3 := ⟨by rw [heap_setCell_same w b 1 _ _ _ k.out]; rfl⟩
theorem L4.set2 {w : World} {b : Nat} {x0 x1 x2 x3 : Int} (k : L4 w b x0 x1 x2 x3) (y : Int) : L4 (w.setCell ⟨b, 2, none⟩ (.int .u64 y)) b x0 x1 y x3 := ⟨by rw [heap_setCell_same w b 2 _ _ _ k.out]; rfl⟩
theorem L4.set3 {w : World} {b : Nat} {x0 x1 x2 x3 : Int} (k : L4 w b x0 x1 x2 x3) (y : Int) : L4 (w.setCell ⟨b, 3, none⟩ (.int .u64 y)) b x0 x1 x2 y := ⟨by rw [heap_setCell_same w b 3 _ _ _ k.out]; rfl⟩
/-- A line stored whole. -/
def stW (w : World) (b : Nat) (y0 y1 y2 y3 : Int) : World := (((w.setCell ⟨b, 0, none⟩ (.int .u64 y0)).setCell ⟨b, 1, none⟩ (.int .u64 y1)).setCell ⟨b, 2, none⟩ (.int .u64 y2)).setCell ⟨b, 3, none⟩ (.int .u64 y3)
theorem L4.fill {w : World} {b : Nat} {x0 x1 x2 x3 : Int} (k : L4 w b x0 x1 x2 x3) (y0 y1 y2 y3 : Int) : L4 (stW w b y0 y1 y2 y3) b y0 y1 y2 y3 := (((k.set0 y0).set1 y1).set2 y2).set3 y3
theorem kept_st {a w : World} (h : Kept a w) {b : Nat} (hb : a.heap.size ≤ b) (y0 y1 y2 y3 : Int) : Kept a (stW w b y0 y1 y2 y3) := kept_set (kept_set (kept_set (kept_set h (p := ⟨b, 0, none⟩) hb _) (p := ⟨b, 1, none⟩) hb _) (p := ⟨b, 2, none⟩) hb _) (p := ⟨b, 3, none⟩) hb _
/-- What is needed to store a line there. -/
theorem L4.ready {w : World} {b : Nat} {x0 x1 x2 x3 : Int} (k : L4 w b x0 x1 x2 x3) (y0 y1 y2 : Int) :
    (w.cell? ⟨b, 0, none⟩ = some (.int .u64 x0) ∧ w.frozen? ⟨b, 0, none⟩ = false) ∧
    ((w.setCell ⟨b, 0, none⟩ (.int .u64 y0)).cell? ⟨b, 1, none⟩ = some (.int .u64 x1) ∧ (w.setCell ⟨b, 0, none⟩ (.int .u64 y0)).frozen? ⟨b, 1, none⟩ = false) ∧
    (((w.setCell ⟨b, 0, none⟩ (.int .u64 y0)).setCell ⟨b, 1, none⟩ (.int .u64 y1)).cell? ⟨b, 2, none⟩ = some (.int .u64 x2) ∧ ((w.setCell ⟨b, 0, none⟩ (.int .u64 y0)).setCell ⟨b, 1, none⟩ (.int .u64 y1)).frozen? ⟨b, 2, none⟩ = false) ∧
    ((((w.setCell ⟨b, 0, none⟩ (.int .u64 y0)).setCell ⟨b, 1, none⟩ (.int .u64 y1)).setCell ⟨b, 2, none⟩ (.int .u64 y2)).cell? ⟨b, 3, none⟩ = some (.int .u64 x3) ∧ (((w.setCell ⟨b, 0, none⟩ (.int .u64 y0)).setCell ⟨b, 1, none⟩ (.int .u64 y1)).setCell ⟨b, 2, none⟩ (.int .u64 y2)).frozen? ⟨b, 3, none⟩ = false) :=
  ⟨⟨k.cs.1, k.fz 0⟩, ⟨(k.set0 y0).cs.2.1, (k.set0 y0).fz 1⟩, ⟨((k.set0 y0).set1 y1).cs.2.2.1, ((k.set0 y0).set1 y1).fz 2⟩, ⟨(((k.set0 y0).set1 y1).set2 y2).cs.2.2.2, (((k.set0 y0).set1 y1).set2 y2).fz 3⟩⟩

set_option maxRecDepth 100000 in
theorem qend_walk {w : World} {a : Nat} (n l0 l1 l2 l3 v : Nat)
    (hb : ∀ W, Kept w W → Calls Try.prog 16 #[.pointer (some ⟨a, 0, none⟩), .int .u64 (n : Nat), .agg #[.int .u64 (l0 : Nat), .int .u64 (l1 : Nat), .int .u64 (l2 : Nat), .int .u64 (l3 : Nat)]] W fun e w' => e = .returned (.tuple #[.int .u64 (v : Nat), .bool true, .int .i64 0]) ∧ Kept W w') :
    Calls Try.prog 23 #[.pointer (some ⟨a, 0, none⟩), .int .u64 (n : Nat), .agg #[.int .u64 (l0 : Nat), .int .u64 (l1 : Nat), .int .u64 (l2 : Nat), .int .u64 (l3 : Nat)]] w fun e w' => e = .returned (.tuple #[.int .u64 (v : Nat), .int .i64 0]) ∧ Kept w w' := by
  have kA : Kept w (w.alloc (.cells #[.int .u64 (l0 : Nat), .int .u64 (l1 : Nat), .int .u64 (l2 : Nat), .int .u64 (l3 : Nat)] 53)) := (Kept.refl w).alloc _
  have h1 := hb _ kA
  obtain ⟨c0, c1, c2, c3⟩ := (L4.made w l0 l1 l2 l3).cs
  clear hb
  go_enter Try.func23, Try.ntmps23
  go_wp2_with (go_at_call 16; (with_reducible refine h1.mono ?_); rintro e w1 ⟨rfl, k1⟩; have K1 : Hid (Kept w w1) := kA.trans k1; clear k1)
  go_ret2
  exact ⟨rfl, K1.out⟩

set_option maxRecDepth 100000 in
set_option maxHeartbeats 2000000 in
theorem said_none {w : World} {B a b m : Nat} {nm : List Nat} {f : ByteArray → Option ByteArray} (h : Qs w B a b m nm f) (hf : f (bs nm) = none) :
    Calls Try.prog 22 #[.pointer (some ⟨a, 0, none⟩)] w fun e w' => e = .returned (.tuple #[.agg #[.int .u64 0, .int .u64 0, .int .u64 0, .int .u64 0], .int .i64 0]) ∧ Kept w w' := by
  have HC : Hid (∀ W, Kept w W → W.cell? ⟨a, 0, none⟩ = some (.iface 23 (.pointer (some ⟨b, 0, none⟩))) ∧ W.cell? ⟨a, 1, none⟩ = some (.string (bs nm))) := fun W k => ⟨(h.qa.kept k).c0, (h.qa.kept k).c1⟩
  have kA : Kept w (w.alloc (.cells #[.int .u64 0, .int .u64 0, .int .u64 0, .int .u64 0] 53)).drew := ((Kept.refl w).alloc _).drew
  have hg := get_walk (h.kv.kept kA) (bs nm)
  rw [hf] at hg
  have hg : Calls Try.prog 49 #[.pointer (some ⟨b, 0, none⟩), .string (bs nm)] (w.alloc (.cells #[.int .u64 0, .int .u64 0, .int .u64 0, .int .u64 0] 53)).drew fun e w' => e = .returned (.tuple #[.string ⟨#[]⟩, .bool false, .int .i64 0]) ∧ w' = (w.alloc (.cells #[.int .u64 0, .int .u64 0, .int .u64 0, .int .u64 0] 53)).drew := hg
  have mg := fun w => m_get w b
  have Z0 : Hid (L4 (w.alloc (.cells #[.int .u64 0, .int .u64 0, .int .u64 0, .int .u64 0] 53)).drew w.heap.size 0 0 0 0) := (L4.made w 0 0 0 0).kept (Kept.refl _).drew
  clear h hf
  generalize bs nm = ky at *
  go_enter Try.func22, Try.ntmps22
  go_wp2_with fail
  obtain ⟨c0, c1⟩ := HC.out _ (Kept.refl w)
  obtain ⟨d0, d1⟩ := HC.out _ kA
  go_region_held3 (fun W => W.cell? ⟨a, 0, none⟩ = some (.iface 23 (.pointer (some ⟨b, 0, none⟩))) ∧ W.cell? ⟨a, 1, none⟩ = some (.string ky)) (first | exact ⟨d0, d1⟩ | go_keep) (first
    | (go_at_call 49; (with_reducible refine hg.mono ?_); rintro e w2 ⟨rfl, hw2⟩; subst hw2))
  all_goals go_wp2
  all_goals refine bodyPost_ret (v := .tuple #[.agg #[.int .u64 0, .int .u64 0, .int .u64 0, .int .u64 0], .int .i64 0]) ?_ rfl ⟨rfl, ?_⟩
  · exact results_two (p := 2) (u := 3) (ty := 53) rfl _ _ w.heap.size 53 #[.int .u64 0, .int .u64 0, .int .u64 0, .int .u64 0] (0, 0) _ rfl Z0.out.out Try.underlying53 rfl size53
  · exact kA
end Go.Proofs.Ytabbfoaojmhajaa.Q
