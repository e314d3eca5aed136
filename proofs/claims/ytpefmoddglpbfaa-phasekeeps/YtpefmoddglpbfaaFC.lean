/- A record in memory; the walks of May and Text. Conditions: steps and commits are numbers. -/
import Derived.Test.YtpefmoddglpbfaaFA
import Derived.Test.YtpefmoddglpbfaaNWWalkD
import Derived.Deep.RegionHeld3
import Derived.Deep.RegionWith
namespace Go.Proofs.Ytpefmoddglpbfaa.Ph
open Go.ChangeShapes Go.WideShapes Go.ChangeAt Go.RowKit
open N (bs numL Small Kept bs_append)

theorem kept_set {a b : World} (h : Kept a b) {p : Addr} (hp : a.heap.size ≤ p.block) (u : Value) : Kept a (b.setCell p u) := ⟨h.out.setCell hp u⟩
theorem results_two {P : Program} {fn : Func} {p u : Tmp} {ty : TypeId} (h : fn.results = #[.cell p ty, .tmp u]) (tmps : Array Value) (w : World) (g : Nat) (t : TypeId) (cs : Array Value) (fr : Nat × Nat) (d : TypeDesc)
    (hp : tmps.getD p undef = .pointer (some ⟨g, 0, none⟩)) (hg : w.heap[g]? = some (.cells cs t fr))
    (hu : P.underlying ty = some d) (hd : (match d with | .struct _ | .array _ _ => true | _ => false) = true) (hi : (P.info? ty).map (·.size) = some cs.size) :
    (results fn tmps).run P w = .ok (.tuple #[.agg cs, tmps.getD u undef]) w := by
  rw [results_cell_tmp h, hp]
  simp [asAddr, run_loadVar_row w g t ty cs fr d hg hu hd hi]
theorem size24 : (Try.prog.info? 24).map (·.size) = some 3 := by kernel_rfl
theorem heap_alloc_new (w : World) (o : Obj) : (w.alloc o).heap[w.heap.size]? = some o := by
  show (w.heap.push o)[w.heap.size]? = some o
  simp

/-- A record in memory. -/
structure L3 (w : World) (b : Nat) (a s c : Int) : Prop where
  out : w.heap[b]? = some (.cells #[.int .i64 a, .int .u64 s, .int .u64 c] 24)
theorem L3.cs {w : World} {b : Nat} {a s c : Int} (k : L3 w b a s c) : w.cell? ⟨b, 0, none⟩ = some (.int .i64 a) ∧ w.cell? ⟨b, 1, none⟩ = some (.int .u64 s) ∧ w.cell? ⟨b, 2, none⟩ = some (.int .u64 c) :=
  ⟨by rw [cell_of_row w b 0 _ _ _ k.out]; rfl, by rw [cell_of_row w b 1 _ _ _ k.out]; rfl, by rw [cell_of_row w b 2 _ _ _ k.out]; rfl⟩
theorem L3.fz {w : World} {b : Nat} {a s c : Int} (k : L3 w b a s c) (j : Nat) : w.frozen? ⟨b, j, none⟩ = false := frozen_of_row w b j _ _ k.out
theorem L3.kept {w w' : World} {b : Nat} {a s c : Int} (k : L3 w b a s c) (h : Kept w w') : L3 w' b a s c := ⟨h.block k.out⟩
theorem L3.made (w : World) (a s c : Int) : L3 (w.alloc (.cells #[.int .i64 a, .int .u64 s, .int .u64 c] 24)) w.heap.size a s c := ⟨heap_alloc_new w _⟩
theorem L3.set0 {w : World} {b : Nat} {a s c : Int} (k : L3 w b a s c) (y : Int) : L3 (w.setCell ⟨b, 0, none⟩ (.int .i64 y)) b y s c := ⟨by rw [heap_setCell_same w b 0 _ _ _ k.out]; rfl⟩
theorem L3.set1 {w : World} {b : Nat} {a s c : Int} (k : L3 w b a s c) (y : Int) : L3 (w.setCell ⟨b, 1, none⟩ (.int .u64 y)) b a y c := ⟨by rw [heap_setCell_same w b 1 _ _ _ k.out]; rfl⟩
theorem L3.set2 {w : World} {b : Nat} {a s c : Int} (k : L3 w b a s c) (y : Int) : L3 (w.setCell ⟨b, 2, none⟩ (.int .u64 y)) b a s y := ⟨by rw [heap_setCell_same w b 2 _ _ _ k.out]; rfl⟩
/-- A record stored whole. -/
def stP (w : World) (b : Nat) (a s c : Int) : World := ((w.setCell ⟨b, 0, none⟩ (.int .i64 a)).setCell ⟨b, 1, none⟩ (.int .u64 s)).setCell ⟨b, 2, none⟩ (.int .u64 c)
theorem L3.fill {w : World} {b : Nat} {x y z : Int} (k : L3 w b x y z) (a s c : Int) : L3 (stP w b a s c) b a s c := ((k.set0 a).set1 s).set2 c
theorem kept_st {v w : World} (h : Kept v w) {b : Nat} (hb : v.heap.size ≤ b) (a s c : Int) : Kept v (stP w b a s c) := kept_set (kept_set (kept_set h (p := ⟨b, 0, none⟩) hb _) (p := ⟨b, 1, none⟩) hb _) (p := ⟨b, 2, none⟩) hb _
/-- What is needed to store a record there. -/
theorem L3.ready {w : World} {b : Nat} {x y z : Int} (k : L3 w b x y z) (a s : Int) :
    (w.cell? ⟨b, 0, none⟩ = some (.int .i64 x) ∧ w.frozen? ⟨b, 0, none⟩ = false) ∧
    ((w.setCell ⟨b, 0, none⟩ (.int .i64 a)).cell? ⟨b, 1, none⟩ = some (.int .u64 y) ∧ (w.setCell ⟨b, 0, none⟩ (.int .i64 a)).frozen? ⟨b, 1, none⟩ = false) ∧
    (((w.setCell ⟨b, 0, none⟩ (.int .i64 a)).setCell ⟨b, 1, none⟩ (.int .u64 s)).cell? ⟨b, 2, none⟩ = some (.int .u64 z) ∧ ((w.setCell ⟨b, 0, none⟩ (.int .i64 a)).setCell ⟨b, 1, none⟩ (.int .u64 s)).frozen? ⟨b, 2, none⟩ = false) :=
  ⟨⟨k.cs.1, k.fz 0⟩, ⟨(k.set0 a).cs.2.1, (k.set0 a).fz 1⟩, ⟨((k.set0 a).set1 s).cs.2.2, ((k.set0 a).set1 s).fz 2⟩⟩

/-- A record may be. -/
abbrev Okr (a : Int) (s c : Nat) : Prop := 0 ≤ a ∧ a ≤ 7 ∧ s ≤ 4611686018427387903 ∧ c ≤ 4611686018427387903

set_option maxRecDepth 100000 in
theorem may_walk (a : Int) (s c : Nat) (w : World) :
    Calls Try.prog 9 #[.agg #[.int .i64 a, .int .u64 (s : Nat), .int .u64 (c : Nat)]] w fun e w' => e = .returned (.bool (decide (Okr a s c))) ∧ Kept w w' := by
  have kA : Kept w (w.alloc (.cells #[.int .i64 a, .int .u64 (s : Nat), .int .u64 (c : Nat)] 24)) := (Kept.refl w).alloc _
  obtain ⟨c0, c1, c2⟩ := (L3.made w a s c).cs
  by_cases h0 : 0 ≤ a
  · by_cases h1 : a ≤ 7
    · by_cases h2 : s ≤ 4611686018427387903
      · by_cases h3 : c ≤ 4611686018427387903
        · have hd : decide (Okr a s c) = true := decide_eq_true ⟨h0, h1, h2, h3⟩
          rw [hd]
          have h2' : (s : Int) ≤ 4611686018427387903 := by omega
          have h3' : (c : Int) ≤ 4611686018427387903 := by omega
          go_enter Try.func9, Try.ntmps9
          go_wp2
          go_ret
          exact ⟨rfl, kA⟩
        · have hd : decide (Okr a s c) = false := decide_eq_false fun h => h3 h.2.2.2
          rw [hd]
          have h2' : (s : Int) ≤ 4611686018427387903 := by omega
          have h3' : ¬ (c : Int) ≤ 4611686018427387903 := by omega
          go_enter Try.func9, Try.ntmps9
          go_wp2
          go_ret
          exact ⟨rfl, kA⟩
      · have hd : decide (Okr a s c) = false := decide_eq_false fun h => h2 h.2.2.1
        rw [hd]
        have h2' : ¬ (s : Int) ≤ 4611686018427387903 := by omega
        go_enter Try.func9, Try.ntmps9
        go_wp2
        go_ret
        exact ⟨rfl, kA⟩
    · have hd : decide (Okr a s c) = false := decide_eq_false fun h => h1 h.2.1
      rw [hd]
      go_enter Try.func9, Try.ntmps9
      go_wp2
      go_ret
      exact ⟨rfl, kA⟩
  · have hd : decide (Okr a s c) = false := decide_eq_false fun h => h0 h.1
    rw [hd]
    go_enter Try.func9, Try.ntmps9
    go_wp2
    go_ret
    exact ⟨rfl, kA⟩

/-- A record's bytes; nothing of one that may not be. -/
def txt (a : Int) (s c : Nat) : List Nat := if Okr a s c then numL a.toNat ++ (numL s ++ numL c) else []

set_option maxRecDepth 100000 in
theorem text_no {a : Int} {s c : Nat} (h : ¬ Okr a s c) (w : World) :
    Calls Try.prog 6 #[.agg #[.int .i64 a, .int .u64 (s : Nat), .int .u64 (c : Nat)]] w fun e w' => e = .returned (.string ⟨#[]⟩) ∧ Kept w w' := by
  have kA : Kept w (w.alloc (.cells #[.int .i64 a, .int .u64 (s : Nat), .int .u64 (c : Nat)] 24)) := (Kept.refl w).alloc _
  obtain ⟨c0, c1, c2⟩ := (L3.made w a s c).cs
  have f1 := fun W => may_walk a s c W
  rw [decide_eq_false h] at f1
  go_enter Try.func6, Try.ntmps6
  go_wp2_with (go_at_call 9; (with_reducible refine (f1 _).mono ?_); rintro e w1 ⟨rfl, k1⟩; have K1 : Hid (Kept w w1) := kA.trans k1; clear k1)
  go_ret
  exact ⟨rfl, K1.out⟩

set_option maxRecDepth 100000 in
set_option maxHeartbeats 1000000 in
theorem text_yes {a s c : Nat} (h : Okr a s c) (w : World) :
    Calls Try.prog 6 #[.agg #[.int .i64 (a : Nat), .int .u64 (s : Nat), .int .u64 (c : Nat)]] w fun e w' => e = .returned (.string (bs (numL a ++ (numL s ++ numL c)))) ∧ Kept w w' := by
  obtain ⟨_, ha, hs, hc⟩ := h
  have kA : Kept w (w.alloc (.cells #[.int .i64 (a : Nat), .int .u64 (s : Nat), .int .u64 (c : Nat)] 24)) := (Kept.refl w).alloc _
  have hL := L3.made w a s c
  have HSA : Hid (∀ W, Kept (w.alloc (.cells #[.int .i64 (a : Nat), .int .u64 (s : Nat), .int .u64 (c : Nat)] 24)) W → W.cell? ⟨w.heap.size, 0, none⟩ = some (.int .i64 (a : Nat)) ∧ W.cell? ⟨w.heap.size, 1, none⟩ = some (.int .u64 (s : Nat)) ∧ W.cell? ⟨w.heap.size, 2, none⟩ = some (.int .u64 (c : Nat))) := fun W k => (hL.kept k).cs
  obtain ⟨c0, c1, c2⟩ := hL.cs
  have f1 := fun W => may_walk a s c W
  rw [decide_eq_true (show Okr (a : Nat) s c from ⟨by omega, ha, hs, hc⟩)] at f1
  have wr : IntKind.u64.wrap (a : Int) = (a : Int) := by rw [IntKind.wrap_u64]; omega
  have n1 := fun W => N.num_walk a (by omega) W
  have n2 := fun W => N.num_walk s (by omega) W
  have n3 := fun W => N.num_walk c (by omega) W
  have j1 := bs_append (numL a) (numL s)
  have j2 := bs_append (numL a ++ numL s) (numL c)
  rw [List.append_assoc] at j2
  have sz := N.bs_size
  have za := N.numL_ten a (by omega)
  have zs := N.numL_ten s (by omega)
  have zc := N.numL_ten c (by omega)
  have y1 : ¬ 9223372036854775807 < (bs (numL a)).size + (bs (numL s)).size := by rw [sz, sz]; omega
  have y2 : ¬ 9223372036854775807 < (bs (numL a ++ numL s)).size + (bs (numL c)).size := by rw [sz, sz, List.length_append]; omega
  clear hL za zs zc sz
  generalize bs (numL a ++ (numL s ++ numL c)) = T at *
  generalize bs (numL a ++ numL s) = U at *
  generalize bs (numL a) = X at *
  generalize bs (numL s) = Y at *
  generalize bs (numL c) = Z at *
  generalize hW0 : w.alloc (.cells #[.int .i64 (a : Nat), .int .u64 (s : Nat), .int .u64 (c : Nat)] 24) = W0 at *
  go_enter Try.func6, Try.ntmps6
  go_wp2_with (go_at_call 9; (with_reducible refine (f1 _).mono ?_); rintro e w1 ⟨rfl, k1⟩; have K1 : Kept W0 w1 := k1; clear k1)
  have d0 := HSA.out _ K1
  go_region_held3 (fun W => W.cell? ⟨w.heap.size, 0, none⟩ = some (.int .i64 (a : Nat)) ∧ W.cell? ⟨w.heap.size, 1, none⟩ = some (.int .u64 (s : Nat)) ∧ W.cell? ⟨w.heap.size, 2, none⟩ = some (.int .u64 (c : Nat))) (exact HSA.out _ (by (repeat (first | assumption | apply Kept.drew)))) (first
    | (go_at_call 15; (with_reducible refine (n1 _).mono ?_); rintro e w2 ⟨rfl, k2⟩; have K2 : Kept W0 w2 := (by refine Kept.trans ?_ k2; (repeat (first | assumption | apply Kept.drew))); clear k2)
    | (go_at_call 15; (with_reducible refine (n2 _).mono ?_); rintro e w2 ⟨rfl, k2⟩; have K2 : Kept W0 w2 := (by refine Kept.trans ?_ k2; (repeat (first | assumption | apply Kept.drew))); clear k2)
    | (go_at_call 15; (with_reducible refine (n3 _).mono ?_); rintro e w2 ⟨rfl, k2⟩; have K2 : Kept W0 w2 := (by refine Kept.trans ?_ k2; (repeat (first | assumption | apply Kept.drew))); clear k2))
  all_goals go_wp2
  all_goals go_ret
  all_goals exact ⟨rfl, kA.trans (by assumption)⟩

theorem text_walk (a : Int) (s c : Nat) (w : World) :
    Calls Try.prog 6 #[.agg #[.int .i64 a, .int .u64 (s : Nat), .int .u64 (c : Nat)]] w fun e w' => e = .returned (.string (bs (txt a s c))) ∧ Kept w w' := by
  unfold txt
  by_cases h : Okr a s c
  · rw [if_pos h]
    obtain ⟨n, rfl⟩ : ∃ n : Nat, a = n := ⟨a.toNat, by have := h.1; omega⟩
    exact text_yes h w
  · rw [if_neg h]
    exact text_no h w
end Go.Proofs.Ytpefmoddglpbfaa.Ph
