/- Joined: NNA NNB NPl. What is proved of the functions beneath StoreNone. Conditions: those that each row names. -/
import Derived.Test.YtifeihnhkbagpaaGreatDoorZav
import Derived.Deep.RegionHeld3
import Derived.Deep.DrawnRows
import Derived.BigQuiet
namespace Go.Proofs.YtifeihnhkbagpaaGreatDoor.N
open Go.ChangeShapes Go.WideShapes Go.ChangeAt Go.RowKit

theorem ready3 {W : World} {b : Nat} {c0 c1 c2 : Value} {t : TypeId} (h0 : W.heap[b]? = some (.cells #[c0, c1, c2] t)) (v0 v1 v2 : Value) :
    (W.cell? ⟨b, 0, none⟩ = some c0 ∧ W.frozen? ⟨b, 0, none⟩ = false) ∧
    ((W.setCell ⟨b, 0, none⟩ v0).cell? ⟨b, 1, none⟩ = some c1 ∧ (W.setCell ⟨b, 0, none⟩ v0).frozen? ⟨b, 1, none⟩ = false) ∧
    (((W.setCell ⟨b, 0, none⟩ v0).setCell ⟨b, 1, none⟩ v1).cell? ⟨b, 2, none⟩ = some c2 ∧ ((W.setCell ⟨b, 0, none⟩ v0).setCell ⟨b, 1, none⟩ v1).frozen? ⟨b, 2, none⟩ = false) ∧
    (((W.setCell ⟨b, 0, none⟩ v0).setCell ⟨b, 1, none⟩ v1).setCell ⟨b, 2, none⟩ v2).heap[b]? = some (.cells #[v0, v1, v2] t) := by
  have h1 : (W.setCell ⟨b, 0, none⟩ v0).heap[b]? = some (.cells #[v0, c1, c2] t) := by rw [heap_setCell_same _ b 0 _ _ _ h0]; rfl
  have h2 : ((W.setCell ⟨b, 0, none⟩ v0).setCell ⟨b, 1, none⟩ v1).heap[b]? = some (.cells #[v0, v1, c2] t) := by rw [heap_setCell_same _ b 1 _ _ _ h1]; rfl
  have h3 : (((W.setCell ⟨b, 0, none⟩ v0).setCell ⟨b, 1, none⟩ v1).setCell ⟨b, 2, none⟩ v2).heap[b]? = some (.cells #[v0, v1, v2] t) := by rw [heap_setCell_same _ b 2 _ _ _ h2]; rfl
  exact ⟨⟨by rw [cell_of_row _ b 0 _ _ _ h0]; rfl, frozen_of_row _ b 0 _ _ h0⟩, ⟨by rw [cell_of_row _ b 1 _ _ _ h1]; rfl, frozen_of_row _ b 1 _ _ h1⟩, ⟨by rw [cell_of_row _ b 2 _ _ _ h2]; rfl, frozen_of_row _ b 2 _ _ h2⟩, h3⟩

theorem cells3 {W : World} {b : Nat} {c0 c1 c2 : Value} {t : TypeId} (h : W.heap[b]? = some (.cells #[c0, c1, c2] t)) :
    W.cell? ⟨b, 0, none⟩ = some c0 ∧ W.cell? ⟨b, 1, none⟩ = some c1 ∧ W.cell? ⟨b, 2, none⟩ = some c2 :=
  ⟨by rw [cell_of_row _ b 0 _ _ _ h]; rfl, by rw [cell_of_row _ b 1 _ _ _ h]; rfl, by rw [cell_of_row _ b 2 _ _ _ h]; rfl⟩

theorem others3 (W : World) {b k : Nat} (h : k ≠ b) (v0 v1 v2 : Value) : (((W.setCell ⟨b, 0, none⟩ v0).setCell ⟨b, 1, none⟩ v1).setCell ⟨b, 2, none⟩ v2).heap[k]? = W.heap[k]? := by
  rw [heap_setCell_other _ ⟨b, 2, none⟩ k _ h, heap_setCell_other _ ⟨b, 1, none⟩ k _ h, heap_setCell_other _ ⟨b, 0, none⟩ k _ h]

theorem ready4 {W : World} {b : Nat} {c0 c1 c2 c3 : Value} {t : TypeId} (h0 : W.heap[b]? = some (.cells #[c0, c1, c2, c3] t)) (v0 v1 v2 v3 : Value) :
    (W.cell? ⟨b, 0, none⟩ = some c0 ∧ W.frozen? ⟨b, 0, none⟩ = false) ∧
    ((W.setCell ⟨b, 0, none⟩ v0).cell? ⟨b, 1, none⟩ = some c1 ∧ (W.setCell ⟨b, 0, none⟩ v0).frozen? ⟨b, 1, none⟩ = false) ∧
    (((W.setCell ⟨b, 0, none⟩ v0).setCell ⟨b, 1, none⟩ v1).cell? ⟨b, 2, none⟩ = some c2 ∧ ((W.setCell ⟨b, 0, none⟩ v0).setCell ⟨b, 1, none⟩ v1).frozen? ⟨b, 2, none⟩ = false) ∧
    ((((W.setCell ⟨b, 0, none⟩ v0).setCell ⟨b, 1, none⟩ v1).setCell ⟨b, 2, none⟩ v2).cell? ⟨b, 3, none⟩ = some c3 ∧ (((W.setCell ⟨b, 0, none⟩ v0).setCell ⟨b, 1, none⟩ v1).setCell ⟨b, 2, none⟩ v2).frozen? ⟨b, 3, none⟩ = false) ∧
    ((((W.setCell ⟨b, 0, none⟩ v0).setCell ⟨b, 1, none⟩ v1).setCell ⟨b, 2, none⟩ v2).setCell ⟨b, 3, none⟩ v3).heap[b]? = some (.cells #[v0, v1, v2, v3] t) := by
  have h1 : (W.setCell ⟨b, 0, none⟩ v0).heap[b]? = some (.cells #[v0, c1, c2, c3] t) := by rw [heap_setCell_same _ b 0 _ _ _ h0]; rfl
  have h2 : ((W.setCell ⟨b, 0, none⟩ v0).setCell ⟨b, 1, none⟩ v1).heap[b]? = some (.cells #[v0, v1, c2, c3] t) := by rw [heap_setCell_same _ b 1 _ _ _ h1]; rfl
  have h3 : (((W.setCell ⟨b, 0, none⟩ v0).setCell ⟨b, 1, none⟩ v1).setCell ⟨b, 2, none⟩ v2).heap[b]? = some (.cells #[v0, v1, v2, c3] t) := by rw [heap_setCell_same _ b 2 _ _ _ h2]; rfl
  have h4 : ((((W.setCell ⟨b, 0, none⟩ v0).setCell ⟨b, 1, none⟩ v1).setCell ⟨b, 2, none⟩ v2).setCell ⟨b, 3, none⟩ v3).heap[b]? = some (.cells #[v0, v1, v2, v3] t) := by rw [heap_setCell_same _ b 3 _ _ _ h3]; rfl
  exact ⟨⟨by rw [cell_of_row _ b 0 _ _ _ h0]; rfl, frozen_of_row _ b 0 _ _ h0⟩, ⟨by rw [cell_of_row _ b 1 _ _ _ h1]; rfl, frozen_of_row _ b 1 _ _ h1⟩, ⟨by rw [cell_of_row _ b 2 _ _ _ h2]; rfl, frozen_of_row _ b 2 _ _ h2⟩, ⟨by rw [cell_of_row _ b 3 _ _ _ h3]; rfl, frozen_of_row _ b 3 _ _ h3⟩, h4⟩

theorem cells4 {W : World} {b : Nat} {c0 c1 c2 c3 : Value} {t : TypeId} (h : W.heap[b]? = some (.cells #[c0, c1, c2, c3] t)) :
    W.cell? ⟨b, 0, none⟩ = some c0 ∧ W.cell? ⟨b, 1, none⟩ = some c1 ∧ W.cell? ⟨b, 2, none⟩ = some c2 ∧ W.cell? ⟨b, 3, none⟩ = some c3 :=
  ⟨by rw [cell_of_row _ b 0 _ _ _ h]; rfl, by rw [cell_of_row _ b 1 _ _ _ h]; rfl, by rw [cell_of_row _ b 2 _ _ _ h]; rfl, by rw [cell_of_row _ b 3 _ _ _ h]; rfl⟩

theorem others4 (W : World) {b k : Nat} (h : k ≠ b) (v0 v1 v2 v3 : Value) : ((((W.setCell ⟨b, 0, none⟩ v0).setCell ⟨b, 1, none⟩ v1).setCell ⟨b, 2, none⟩ v2).setCell ⟨b, 3, none⟩ v3).heap[k]? = W.heap[k]? := by
  rw [heap_setCell_other _ ⟨b, 3, none⟩ k _ h, heap_setCell_other _ ⟨b, 2, none⟩ k _ h, heap_setCell_other _ ⟨b, 1, none⟩ k _ h, heap_setCell_other _ ⟨b, 0, none⟩ k _ h]

structure C4 (w : World) (b : Nat) (t : TypeId) (a0 a1 a2 a3 : Value) : Prop where
  out : w.heap[b]? = some (.cells #[a0, a1, a2, a3] t)
structure C3 (w : World) (b : Nat) (t : TypeId) (a0 a1 a2 : Value) : Prop where
  out : w.heap[b]? = some (.cells #[a0, a1, a2] t)
theorem C4.kept {w w' : World} {b : Nat} {t : TypeId} {a0 a1 a2 a3 : Value} (k : C4 w b t a0 a1 a2 a3) (h : Kept w w') : C4 w' b t a0 a1 a2 a3 := ⟨h.block k.out⟩
theorem C3.kept {w w' : World} {b : Nat} {t : TypeId} {a0 a1 a2 : Value} (k : C3 w b t a0 a1 a2) (h : Kept w w') : C3 w' b t a0 a1 a2 := ⟨h.block k.out⟩
theorem C4.alloc (w : World) (t : TypeId) (a0 a1 a2 a3 : Value) : C4 (w.alloc (.cells #[a0, a1, a2, a3] t)) w.heap.size t a0 a1 a2 a3 := ⟨heap_alloc_new w _⟩
theorem C3.alloc (w : World) (t : TypeId) (a0 a1 a2 : Value) : C3 (w.alloc (.cells #[a0, a1, a2] t)) w.heap.size t a0 a1 a2 := ⟨heap_alloc_new w _⟩
theorem C4.drew {w : World} {b : Nat} {t : TypeId} {a0 a1 a2 a3 : Value} (k : C4 w b t a0 a1 a2 a3) : C4 w.drew b t a0 a1 a2 a3 := ⟨k.out⟩
theorem C3.drew {w : World} {b : Nat} {t : TypeId} {a0 a1 a2 : Value} (k : C3 w b t a0 a1 a2) : C3 w.drew b t a0 a1 a2 := ⟨k.out⟩
theorem C4.cs {w : World} {b : Nat} {t : TypeId} {a0 a1 a2 a3 : Value} (k : C4 w b t a0 a1 a2 a3) : w.cell? ⟨b, 0, none⟩ = some a0 ∧ w.cell? ⟨b, 1, none⟩ = some a1 ∧ w.cell? ⟨b, 2, none⟩ = some a2 ∧ w.cell? ⟨b, 3, none⟩ = some a3 := cells4 k.out
theorem C3.cs {w : World} {b : Nat} {t : TypeId} {a0 a1 a2 : Value} (k : C3 w b t a0 a1 a2) : w.cell? ⟨b, 0, none⟩ = some a0 ∧ w.cell? ⟨b, 1, none⟩ = some a1 ∧ w.cell? ⟨b, 2, none⟩ = some a2 := cells3 k.out
theorem C4.fz {w : World} {b : Nat} {t : TypeId} {a0 a1 a2 a3 : Value} (k : C4 w b t a0 a1 a2 a3) (j : Nat) : w.frozen? ⟨b, j, none⟩ = false := frozen_of_row w b j _ _ k.out
theorem C3.fz {w : World} {b : Nat} {t : TypeId} {a0 a1 a2 : Value} (k : C3 w b t a0 a1 a2) (j : Nat) : w.frozen? ⟨b, j, none⟩ = false := frozen_of_row w b j _ _ k.out
theorem C4.lt {w : World} {b : Nat} {t : TypeId} {a0 a1 a2 a3 : Value} (k : C4 w b t a0 a1 a2 a3) : b < w.heap.size := (Array.getElem?_eq_some_iff.1 k.out).1
theorem C3.lt {w : World} {b : Nat} {t : TypeId} {a0 a1 a2 : Value} (k : C3 w b t a0 a1 a2) : b < w.heap.size := (Array.getElem?_eq_some_iff.1 k.out).1
theorem C4.far {w : World} {b : Nat} {t : TypeId} {a0 a1 a2 a3 : Value} (k : C4 w b t a0 a1 a2 a3) (a : Addr) (v : Value) (h : b ≠ a.block) : C4 (w.setCell a v) b t a0 a1 a2 a3 := ⟨(heap_setCell_other w a b v h).trans k.out⟩
theorem C3.far {w : World} {b : Nat} {t : TypeId} {a0 a1 a2 : Value} (k : C3 w b t a0 a1 a2) (a : Addr) (v : Value) (h : b ≠ a.block) : C3 (w.setCell a v) b t a0 a1 a2 := ⟨(heap_setCell_other w a b v h).trans k.out⟩
theorem C4.grown {w w' : World} {r : Option Nat} {b : Nat} {t : TypeId} {a0 a1 a2 a3 : Value} (k : C4 w b t a0 a1 a2 a3) (h : w.grownBy w' r) (hb : some b ≠ r) : C4 w' b t a0 a1 a2 a3 := ⟨(h.block b k.lt hb).trans k.out⟩
theorem C3.grown {w w' : World} {r : Option Nat} {b : Nat} {t : TypeId} {a0 a1 a2 : Value} (k : C3 w b t a0 a1 a2) (h : w.grownBy w' r) (hb : some b ≠ r) : C3 w' b t a0 a1 a2 := ⟨(h.block b k.lt hb).trans k.out⟩
theorem Kept.set {w W : World} (h : Kept w W) {a : Addr} (ha : w.heap.size ≤ a.block) (v : Value) : Kept w (W.setCell a v) := ⟨h.out.setCell ha v⟩

theorem size121 : (Tryz.prog.info? 121).map (·.size) = some 4 := by kernel_rfl
theorem size77 : (Tryz.prog.info? 77).map (·.size) = some 3 := by kernel_rfl
theorem results_three {P : Program} {fn : Func} {p q u : Tmp} {ty tz : TypeId} (h : fn.results = #[.cell p ty, .cell q tz, .tmp u]) (tmps : Array Value) (w : World) (g k : Nat) (t s : TypeId) (cs ds : Array Value) (fr fs : Nat × Nat) (d d' : TypeDesc)
    (hp : tmps.getD p undef = .pointer (some ⟨g, 0, none⟩)) (hg : w.heap[g]? = some (.cells cs t fr)) (hu : P.underlying ty = some d) (hd : (match d with | .struct _ | .array _ _ => true | _ => false) = true) (hi : (P.info? ty).map (·.size) = some cs.size)
    (hq : tmps.getD q undef = .pointer (some ⟨k, 0, none⟩)) (hk : w.heap[k]? = some (.cells ds s fs)) (hu' : P.underlying tz = some d') (hd' : (match d' with | .struct _ | .array _ _ => true | _ => false) = true) (hi' : (P.info? tz).map (·.size) = some ds.size) :
    (results fn tmps).run P w = .ok (.tuple #[.agg cs, .agg ds, tmps.getD u undef]) w := by
  have hp' : tmps[p]?.getD undef = .pointer (some ⟨g, 0, none⟩) := by rw [← hp]; simp
  have hq' : tmps[q]?.getD undef = .pointer (some ⟨k, 0, none⟩) := by rw [← hq]; simp
  simp only [results, h]
  simp [Sem.run_bind, Result.andThen, hp', hq', asAddr, run_loadVar_row w g t ty cs fr d hg hu hd hi, run_loadVar_row w k s tz ds fs d' hk hu' hd' hi']

theorem nothing_walk (w : World) : Calls Tryz.prog 114 #[] w fun e w' => e = .returned (.agg #[.string ⟨#[]⟩, .int .i64 (-1), .int .i64 0]) ∧ Kept w w' := by
  go_enter Tryz.func114, Tryz.ntmps114
  go_wp2
  refine bodyPost_ret (v := .agg #[.string ⟨#[]⟩, .int .i64 (-1), .int .i64 0]) ?_ rfl ⟨rfl, ?_⟩
  · exact results_cell_row (p := 0) rfl _ _ w.heap.size 77 #[.string ⟨#[]⟩, .int .i64 (-1), .int .i64 0] (0, 0) _ rfl (heap_alloc_new w _) Tryz.underlying77 rfl size77
  · exact (Kept.refl w).alloc _

theorem number_walk (n : Nat) (hn : n < 9223372036854775808) (w : World) : Calls Tryz.prog 215 #[.int .i64 (n : Nat)] w fun e w' => e = .returned (.string (bs (numL n))) ∧ Kept w w' := by
  have h := num_walk n (by omega)
  have u1 : IntKind.u64.wrap (n : Int) = (n : Int) := by rw [IntKind.wrap_u64]; omega
  go_enter Tryz.func215, Tryz.ntmps215
  go_wp2_with (go_at_call 111; refine (h _).mono ?_; rintro e w1 ⟨rfl, hk⟩)
  go_ret
  exact ⟨rfl, hk⟩

theorem grown_set (w : World) (a : Addr) (v : Value) : w.grownBy (w.setCell a v) (some a.block) :=
  ⟨rfl, rfl, rfl, by simp [World.setCell], fun k _ hne => heap_setCell_other w a k v (fun e => hne (by rw [e]))⟩

theorem Own.far {w : World} {B : Nat} {e : TypeId} {sz : Nat} {p : Option Addr} {n c : Nat} {cs : List Value} (k : Own w B e sz p n c cs) (a : Addr) (v : Value) (h : a.block < B) : Own (w.setCell a v) B e sz p n c cs := by
  refine ⟨k.out.kept (grown_set w a v) ?_⟩
  cases hq : (Value.slice p n c).ownBlock with
  | none => exact .inl rfl
  | some g => exact .inr (fun he => by have := (k.out.lt g hq).1; injection he with he; omega)

theorem Own.st4 {W : World} {B b : Nat} {e : TypeId} {sz : Nat} {p : Option Addr} {n c : Nat} {cs : List Value} (k : Own W B e sz p n c cs) (h : b < B) (v0 v1 v2 v3 : Value) : Own ((((W.setCell ⟨b, 0, none⟩ v0).setCell ⟨b, 1, none⟩ v1).setCell ⟨b, 2, none⟩ v2).setCell ⟨b, 3, none⟩ v3) B e sz p n c cs :=
  (((k.far ⟨b, 0, none⟩ v0 h).far ⟨b, 1, none⟩ v1 h).far ⟨b, 2, none⟩ v2 h).far ⟨b, 3, none⟩ v3 h
theorem Own.st3 {W : World} {B b : Nat} {e : TypeId} {sz : Nat} {p : Option Addr} {n c : Nat} {cs : List Value} (k : Own W B e sz p n c cs) (h : b < B) (v0 v1 v2 : Value) : Own (((W.setCell ⟨b, 0, none⟩ v0).setCell ⟨b, 1, none⟩ v1).setCell ⟨b, 2, none⟩ v2) B e sz p n c cs :=
  ((k.far ⟨b, 0, none⟩ v0 h).far ⟨b, 1, none⟩ v1 h).far ⟨b, 2, none⟩ v2 h
theorem Kept.st4 {w W : World} {b : Nat} (h : Kept w W) (hb : w.heap.size ≤ b) (v0 v1 v2 v3 : Value) : Kept w ((((W.setCell ⟨b, 0, none⟩ v0).setCell ⟨b, 1, none⟩ v1).setCell ⟨b, 2, none⟩ v2).setCell ⟨b, 3, none⟩ v3) :=
  (((h.set (a := ⟨b, 0, none⟩) hb v0).set (a := ⟨b, 1, none⟩) hb v1).set (a := ⟨b, 2, none⟩) hb v2).set (a := ⟨b, 3, none⟩) hb v3
theorem Kept.st3 {w W : World} {b : Nat} (h : Kept w W) (hb : w.heap.size ≤ b) (v0 v1 v2 : Value) : Kept w (((W.setCell ⟨b, 0, none⟩ v0).setCell ⟨b, 1, none⟩ v1).setCell ⟨b, 2, none⟩ v2) :=
  ((h.set (a := ⟨b, 0, none⟩) hb v0).set (a := ⟨b, 1, none⟩) hb v1).set (a := ⟨b, 2, none⟩) hb v2

set_option maxHeartbeats 2000000 in
set_option maxRecDepth 100000 in
theorem whole_leaf {w : World} {kp vp ip : Option Addr} {n kc vc ni ic : Nat} {KC VC : List Value} (hk : Rw w 1 kp n kc KC) (hv : Rw w 3 vp n vc VC) (h1 : ∀ u ∈ KC, u.oneCell' = true) (h2 : ∀ u ∈ VC, u.oneCell' = true) (hn : n ≤ 100000) :
    Calls Tryz.prog 144 #[.agg #[.bool true, .slice kp n kc, .slice vp n vc, .slice ip ni ic]] w fun e w' => ∃ kp' kc' vp', e = .returned (.agg #[.bool true, .slice kp' n kc', .slice vp' n n, .slice none 0 0]) ∧ Own w' w.heap.size 9 1 kp' n kc' KC ∧ Own w' w.heap.size 77 3 vp' n n VC ∧ Kept w w' := by
  have HC : Hid (∀ W, Kept w W → Calls Tryz.prog 177 #[.slice kp n kc] W fun e w' => ∃ p' c', e = .returned (.slice p' n c') ∧ Own w' W.heap.size 9 1 p' n c' KC ∧ Kept W w') := fun W hW => clone41 (hW.rw hk) hn h1
  have HS : Hid (∀ W, Kept w W → Calls Tryz.prog 178 #[.slice vp n vc, .int .i64 (n : Nat), .agg #[.string ⟨#[]⟩, .int .i64 (-1), .int .i64 0]] W fun e w' => ∃ p', e = .returned (.slice p' n n) ∧ Own w' W.heap.size 77 3 p' n n VC ∧ Kept W w') := fun W hW => sized55 ⟨#[]⟩ (-1) 0 (hW.rw hv) hn h2
  obtain ⟨o1, ho1⟩ : ∃ o : Obj, o = .cells #[.bool true, .slice kp n kc, .slice vp n vc, .slice ip ni ic] 121 := ⟨_, rfl⟩
  obtain ⟨o2, ho2⟩ : ∃ o : Obj, o = .cells #[.bool false, .slice none 0 0, .slice none 0 0, .slice none 0 0] 121 := ⟨_, rfl⟩
  have K0 : Kept w ((w.alloc o1).alloc o2).drew := (((Kept.refl w).alloc _).alloc _).drew
  have P0 : C4 ((w.alloc o1).alloc o2).drew w.heap.size 121 (.bool true) (.slice kp n kc) (.slice vp n vc) (.slice ip ni ic) := by subst ho1; exact (((C4.alloc w 121 _ _ _ _).kept ((Kept.refl _).alloc _))).drew
  have R0 : C4 ((w.alloc o1).alloc o2).drew (w.heap.size + 1) 121 (.bool false) (.slice none 0 0) (.slice none 0 0) (.slice none 0 0) := by subst ho2; rw [← size_alloc w o1]; exact (C4.alloc _ 121 _ _ _ _).drew
  subst ho1; subst ho2
  obtain ⟨c0, c1, c2, c3⟩ := P0.cs
  clear hk hv h1 h2
  go_enter Tryz.func144, Tryz.ntmps144
  go_wp2_with fail
  go_region_held3 (fun W => W.cell? ⟨w.heap.size, 1, none⟩ = some (.slice kp n kc) ∧ W.cell? ⟨w.heap.size, 2, none⟩ = some (.slice vp n vc)) (go_keep) (first
    | (go_at_call 177; (with_reducible refine (HC.out _ K0).mono ?_); rintro e v1 ⟨kp', kc', rfl, O1, k1⟩; have P1 := P0.kept k1; have R1 := R0.kept k1; have K1 := K0.trans k1; obtain ⟨c10, c11, c12, c13⟩ := P1.cs)
    | (go_at_call 114; (with_reducible refine (nothing_walk _).mono ?_); rintro e v2 ⟨rfl, k2⟩; have P2 := P1.kept k2; have R2 := R1.kept k2; have K2 := K1.trans k2; obtain ⟨c20, c21, c22, c23⟩ := P2.cs)
    | (go_at_call 178; (with_reducible refine (HS.out _ K2).mono ?_); rintro e v3 ⟨vp', rfl, O3, k3⟩; have R3 := R2.kept k3; have K3 := K2.trans k3; have P3 := P2.kept k3; obtain ⟨c30, c31, c32, c33⟩ := P3.cs; obtain ⟨⟨g0, f0⟩, ⟨g1, f1⟩, ⟨g2, f2⟩, ⟨g3, f3⟩, hfin⟩ := ready4 R3.out (.bool true) (.slice kp' n kc') (.slice vp' n n) (.slice none 0 0)))
  all_goals generalize hW : ((((v3.setCell ⟨(w.heap.size + 1), 0, none⟩ (.bool true)).setCell ⟨(w.heap.size + 1), 1, none⟩ (.slice kp' n kc')).setCell ⟨(w.heap.size + 1), 2, none⟩ (.slice vp' n n)).setCell ⟨(w.heap.size + 1), 3, none⟩ (.slice none 0 0)) = WF at hfin ⊢
  go_wp2
  refine bodyPost_ret (v := .agg #[.bool true, .slice kp' n kc', .slice vp' n n, .slice none 0 0]) ?_ rfl ⟨_, _, _, rfl, ?_, ?_, ?_⟩
  · exact results_cell_row (p := 2) rfl _ _ (w.heap.size + 1) 121 #[.bool true, .slice kp' n kc', .slice vp' n n, .slice none 0 0] (0, 0) _ rfl hfin Tryz.underlying121 rfl size121
  · have hb := R0.lt
    rw [← hW]
    exact (((O1.kept (k2.trans k3)).st4 hb _ _ _ _).mono K0.size)
  · have hb := R2.lt
    rw [← hW]
    exact ((O3.st4 hb _ _ _ _).mono K2.size)
  · rw [← hW]
    exact K3.st4 (by omega) _ _ _ _
set_option maxHeartbeats 2000000 in
set_option maxRecDepth 100000 in
theorem whole_inner {w : World} {kp vp ip : Option Addr} {n kc nv vc ic : Nat} {KC VC : List Value} (hk : Rw w 1 kp n kc KC) (hv : Rw w 1 ip (n + 1) ic VC) (h1 : ∀ u ∈ KC, u.oneCell' = true) (h2 : ∀ u ∈ VC, u.oneCell' = true) (hn : n + 1 ≤ 100000) :
    Calls Tryz.prog 144 #[.agg #[.bool false, .slice kp n kc, .slice vp nv vc, .slice ip (n + 1) ic]] w fun e w' => ∃ kp' kc' vp', e = .returned (.agg #[.bool false, .slice kp' n kc', .slice none 0 0, .slice vp' (n + 1) (n + 1)]) ∧ Own w' w.heap.size 9 1 kp' n kc' KC ∧ Own w' w.heap.size 3 1 vp' (n + 1) (n + 1) VC ∧ Kept w w' := by
  have HC : Hid (∀ W, Kept w W → Calls Tryz.prog 177 #[.slice kp n kc] W fun e w' => ∃ p' c', e = .returned (.slice p' n c') ∧ Own w' W.heap.size 9 1 p' n c' KC ∧ Kept W w') := fun W hW => clone41 (hW.rw hk) (by omega) h1
  have HS : Hid (∀ W, Kept w W → Calls Tryz.prog 179 #[.slice ip (n + 1) ic, .int .i64 ((n : Int) + 1), .int .i64 (-1)] W fun e w' => ∃ p', e = .returned (.slice p' (n + 1) (n + 1)) ∧ Own w' W.heap.size 3 1 p' (n + 1) (n + 1) VC ∧ Kept W w') := fun W hW => by have a := sized56 (-1) (hW.rw hv) (by omega) h2; rwa [Int.natCast_add] at a
  obtain ⟨o1, ho1⟩ : ∃ o : Obj, o = .cells #[.bool false, .slice kp n kc, .slice vp nv vc, .slice ip (n + 1) ic] 121 := ⟨_, rfl⟩
  obtain ⟨o2, ho2⟩ : ∃ o : Obj, o = .cells #[.bool false, .slice none 0 0, .slice none 0 0, .slice none 0 0] 121 := ⟨_, rfl⟩
  have K0 : Kept w ((w.alloc o1).alloc o2).drew := (((Kept.refl w).alloc _).alloc _).drew
  have P0 : C4 ((w.alloc o1).alloc o2).drew w.heap.size 121 (.bool false) (.slice kp n kc) (.slice vp nv vc) (.slice ip (n + 1) ic) := by subst ho1; exact (((C4.alloc w 121 _ _ _ _).kept ((Kept.refl _).alloc _))).drew
  have R0 : C4 ((w.alloc o1).alloc o2).drew (w.heap.size + 1) 121 (.bool false) (.slice none 0 0) (.slice none 0 0) (.slice none 0 0) := by subst ho2; rw [← size_alloc w o1]; exact (C4.alloc _ 121 _ _ _ _).drew
  subst ho1; subst ho2
  obtain ⟨c0, c1, c2, c3⟩ := P0.cs
  have u1 : IntKind.i64.wrap ((n : Int) + 1) = (n : Int) + 1 := by rw [IntKind.wrap_i64]; omega
  clear hk hv h1 h2
  go_enter Tryz.func144, Tryz.ntmps144
  go_wp2_with fail
  go_region_held3 (fun W => W.cell? ⟨w.heap.size, 1, none⟩ = some (.slice kp n kc) ∧ W.cell? ⟨w.heap.size, 3, none⟩ = some (.slice ip (n + 1) ic)) (go_keep) (first
    | (go_at_call 177; (with_reducible refine (HC.out _ K0).mono ?_); rintro e v1 ⟨kp', kc', rfl, O1, k1⟩; have P1 := P0.kept k1; have R1 := R0.kept k1; have K1 := K0.trans k1; obtain ⟨c10, c11, c12, c13⟩ := P1.cs)
    | (go_at_call 179; (with_reducible refine (HS.out _ K1).mono ?_); rintro e v3 ⟨vp', rfl, O3, k3⟩; have R3 := R1.kept k3; have K3 := K1.trans k3; have P3 := P1.kept k3; obtain ⟨c30, c31, c32, c33⟩ := P3.cs; obtain ⟨⟨g0, f0⟩, ⟨g1, f1⟩, ⟨g2, f2⟩, ⟨g3, f3⟩, hfin⟩ := ready4 R3.out (.bool false) (.slice kp' n kc') (.slice none 0 0) (.slice vp' (n + 1) (n + 1))))
  all_goals generalize hW : ((((v3.setCell ⟨(w.heap.size + 1), 0, none⟩ (.bool false)).setCell ⟨(w.heap.size + 1), 1, none⟩ (.slice kp' n kc')).setCell ⟨(w.heap.size + 1), 2, none⟩ (.slice none 0 0)).setCell ⟨(w.heap.size + 1), 3, none⟩ (.slice vp' (n + 1) (n + 1))) = WF at hfin ⊢
  go_wp2
  refine bodyPost_ret (v := .agg #[.bool false, .slice kp' n kc', .slice none 0 0, .slice vp' (n + 1) (n + 1)]) ?_ rfl ⟨_, _, _, rfl, ?_, ?_, ?_⟩
  · exact results_cell_row (p := 2) rfl _ _ (w.heap.size + 1) 121 #[.bool false, .slice kp' n kc', .slice none 0 0, .slice vp' (n + 1) (n + 1)] (0, 0) _ rfl hfin Tryz.underlying121 rfl size121
  · have hb := R0.lt
    rw [← hW]
    exact (((O1.kept k3).st4 hb _ _ _ _).mono K0.size)
  · have hb := R1.lt
    rw [← hW]
    exact ((O3.st4 hb _ _ _ _).mono K1.size)
  · rw [← hW]
    exact K3.st4 (by omega) _ _ _ _

set_option maxHeartbeats 2000000 in
set_option maxRecDepth 100000 in
theorem leafOf_walk {w : World} {l : Bool} {kp vp ip : Option Addr} {n kc vc ni ic : Nat} {KC VC : List Value} (hk : Rw w 1 kp n kc KC) (hv : Rw w 3 vp n vc VC) (h1 : ∀ u ∈ KC, u.oneCell' = true) (h2 : ∀ u ∈ VC, u.oneCell' = true) (hn : n ≤ 100000) :
    Calls Tryz.prog 113 #[.agg #[.bool l, .slice kp n kc, .slice vp n vc, .slice ip ni ic]] w fun e w' => ∃ kp' kc' vp', e = .returned (.agg #[.bool true, .slice kp' n kc', .slice vp' n n, .slice none 0 0]) ∧ Own w' w.heap.size 9 1 kp' n kc' KC ∧ Own w' w.heap.size 77 3 vp' n n VC ∧ Kept w w' := by
  have HC : Hid (∀ W, Kept w W → Calls Tryz.prog 144 #[.agg #[.bool true, .slice kp n kc, .slice vp n vc, .slice none 0 0]] W fun e w' => ∃ kp' kc' vp', e = .returned (.agg #[.bool true, .slice kp' n kc', .slice vp' n n, .slice none 0 0]) ∧ Own w' W.heap.size 9 1 kp' n kc' KC ∧ Own w' W.heap.size 77 3 vp' n n VC ∧ Kept W w') := fun W hW => whole_leaf (hW.rw hk) (hW.rw hv) h1 h2 hn
  obtain ⟨o1, ho1⟩ : ∃ o : Obj, o = .cells #[.bool l, .slice kp n kc, .slice vp n vc, .slice ip ni ic] 121 := ⟨_, rfl⟩
  obtain ⟨o2, ho2⟩ : ∃ o : Obj, o = .cells #[.bool false, .slice none 0 0, .slice none 0 0, .slice none 0 0] 121 := ⟨_, rfl⟩
  have K0 : Kept w ((w.alloc o1).alloc o2) := ((Kept.refl w).alloc _).alloc _
  have R0 : C4 ((w.alloc o1).alloc o2) (w.heap.size + 1) 121 (.bool false) (.slice none 0 0) (.slice none 0 0) (.slice none 0 0) := by subst ho2; rw [← size_alloc w o1]; exact C4.alloc _ 121 _ _ _ _
  subst ho1; subst ho2
  clear hk hv h1 h2
  go_enter Tryz.func113, Tryz.ntmps113
  go_wp2_with (go_at_call 144; (with_reducible refine (HC.out _ K0).mono ?_); rintro e v3 ⟨kp', kc', vp', rfl, O1, O3, k1⟩; have R3 := R0.kept k1; have K3 := K0.trans k1; obtain ⟨⟨g0, f0⟩, ⟨g1, f1⟩, ⟨g2, f2⟩, ⟨g3, f3⟩, hfin⟩ := ready4 R3.out (.bool true) (.slice kp' n kc') (.slice vp' n n) (.slice none 0 0))
  generalize hW : ((((v3.setCell ⟨(w.heap.size + 1), 0, none⟩ (.bool true)).setCell ⟨(w.heap.size + 1), 1, none⟩ (.slice kp' n kc')).setCell ⟨(w.heap.size + 1), 2, none⟩ (.slice vp' n n)).setCell ⟨(w.heap.size + 1), 3, none⟩ (.slice none 0 0)) = WF at hfin ⊢
  refine bodyPost_ret (v := .agg #[.bool true, .slice kp' n kc', .slice vp' n n, .slice none 0 0]) ?_ rfl ⟨_, _, _, rfl, ?_, ?_, ?_⟩
  · exact results_cell_row (p := 2) rfl _ _ (w.heap.size + 1) 121 #[.bool true, .slice kp' n kc', .slice vp' n n, .slice none 0 0] (0, 0) _ rfl hfin Tryz.underlying121 rfl size121
  · have hb := R0.lt
    rw [← hW]
    exact ((O1.st4 hb _ _ _ _).mono K0.size)
  · have hb := R0.lt
    rw [← hW]
    exact ((O3.st4 hb _ _ _ _).mono K0.size)
  · rw [← hW]
    exact K3.st4 (by omega) _ _ _ _


theorem less_irrefl : ∀ a : List UInt8, Op.bytesLess a a = false
  | [] => rfl
  | x :: r => by simp [Op.bytesLess, less_irrefl r]
theorem less_trans : ∀ a b c : List UInt8, Op.bytesLess a b = true → Op.bytesLess b c = true → Op.bytesLess a c = true
  | _, [], _, h, _ => by simp [Op.bytesLess] at h
  | _, _ :: _, [], _, h => by simp [Op.bytesLess] at h
  | [], _ :: _, _ :: _, _, _ => rfl
  | x :: a, y :: b, z :: c, h, k => by
    simp only [Op.bytesLess, Bool.or_eq_true, decide_eq_true_eq, Bool.and_eq_true, beq_iff_eq] at h k ⊢
    rcases h with h | ⟨rfl, h⟩
    · rcases k with k | ⟨rfl, k⟩
      · exact .inl (by rw [UInt8.lt_iff_toNat_lt] at *; omega)
      · exact .inl h
    · rcases k with k | ⟨rfl, k⟩
      · exact .inl k
      · exact .inr ⟨rfl, less_trans a b c h k⟩
theorem less_total : ∀ a b : List UInt8, Op.bytesLess a b = false → a ≠ b → Op.bytesLess b a = true
  | [], [], _, h => absurd rfl h
  | [], _ :: _, h, _ => by simp [Op.bytesLess] at h
  | _ :: _, [], _, _ => rfl
  | x :: a, y :: b, h, k => by
    simp only [Op.bytesLess, Bool.or_eq_false_iff, decide_eq_false_iff_not, Bool.and_eq_false_iff, beq_eq_false_iff_ne, Bool.or_eq_true, decide_eq_true_eq, Bool.and_eq_true, beq_iff_eq] at h ⊢
    obtain ⟨h1, h2⟩ := h
    by_cases e : x = y
    · subst e
      refine .inr ⟨rfl, less_total a b (h2.resolve_left (fun q => q rfl)) (fun q => k (by rw [q]))⟩
    · refine .inl ?_
      rw [UInt8.lt_iff_toNat_lt] at *
      have : x.toNat ≠ y.toNat := fun q => e (UInt8.toNat_inj.1 q)
      omega

def sl (a b : ByteArray) : Bool := Op.bytesLess a.toList b.toList

theorem toList_eq (s : ByteArray) : s.toList = s.data.toList := by
  have := bs_toList (un s)
  rw [bs_un] at this
  rw [this]
  unfold un
  simp [List.map_map, Function.comp_def]
theorem toList_inj {a b : ByteArray} (h : a.toList = b.toList) : a = b := by
  rw [toList_eq, toList_eq] at h
  cases a; cases b
  simp at h
  subst h
  rfl
theorem seq_iff (a b : ByteArray) : (a.toList == b.toList) = decide (a = b) := by
  by_cases h : a = b
  · subst h; simp
  · have : a.toList ≠ b.toList := fun e => h (toList_inj e)
    simp [h, this]
theorem sl_irrefl (a : ByteArray) : sl a a = false := less_irrefl _
theorem sl_trans {a b c : ByteArray} (h : sl a b = true) (k : sl b c = true) : sl a c = true := less_trans _ _ _ h k
theorem sl_total {a b : ByteArray} (h : sl a b = false) (k : a ≠ b) : sl b a = true := less_total _ _ h (fun e => k (toList_inj e))

def Up (ks : List ByteArray) : Prop := ks.Pairwise fun a b => sl a b = true

def fnd (key : ByteArray) : List ByteArray → Nat
  | [] => 0
  | k :: r => if sl k key = true then fnd key r + 1 else 0

theorem fnd_le (key : ByteArray) : ∀ ks, fnd key ks ≤ ks.length
  | [] => Nat.le_refl _
  | k :: r => by unfold fnd; have := fnd_le key r; split <;> simp <;> omega
theorem fnd_below (key : ByteArray) : ∀ (ks : List ByteArray) (j : Nat) (k : ByteArray), j < fnd key ks → ks[j]? = some k → sl k key = true
  | [], j, k, h, _ => by simp [fnd] at h
  | x :: r, j, k, h, e => by
    unfold fnd at h
    split at h
    · cases j with
      | zero => simp at e; subst e; assumption
      | succ j => exact fnd_below key r j k (by omega) (by simpa using e)
    · omega
theorem fnd_at (key : ByteArray) : ∀ (ks : List ByteArray) (k : ByteArray), ks[fnd key ks]? = some k → sl k key = false
  | [], k, e => by simp at e
  | x :: r, k, e => by
    unfold fnd at e
    split at e
    · exact fnd_at key r k (by simpa using e)
    · rename_i h
      simp at e
      subst e
      simpa using h
theorem fnd_eq (key : ByteArray) {ks : List ByteArray} {i : Nat} (h : ∀ j, j < i → ∀ k, ks[j]? = some k → sl k key = true) (hi : i ≤ ks.length) (hk : ∀ k, ks[i]? = some k → sl k key = false) : fnd key ks = i := by
  have h1 := fnd_le key ks
  rcases Nat.lt_trichotomy (fnd key ks) i with q | q | q
  · have hl : fnd key ks < ks.length := by omega
    have a := fnd_at key ks _ (List.getElem?_eq_getElem hl)
    have b := h _ q _ (List.getElem?_eq_getElem hl)
    rw [a] at b; cases b
  · exact q
  · have hl : i < ks.length := by omega
    have a := fnd_below key ks i _ q (List.getElem?_eq_getElem hl)
    have b := hk _ (List.getElem?_eq_getElem hl)
    rw [a] at b; cases b

def isk (key : ByteArray) (ks : List ByteArray) : Bool := decide (ks[fnd key ks]? = some key)

structure Vl where
  d : ByteArray
  p : Int
  l : Int

def Vl.cells (v : Vl) : List Value := [.string v.d, .int .i64 v.p, .int .i64 v.l]
def kcl (ks : List ByteArray) : List Value := ks.map .string
def icl (is : List Int) : List Value := is.map (.int .i64)
def vcl (vs : List Vl) : List Value := vs.flatMap Vl.cells

theorem kcl_one (ks : List ByteArray) : ∀ u ∈ kcl ks, u.oneCell' = true := by
  intro u hu; unfold kcl at hu; obtain ⟨x, _, rfl⟩ := List.mem_map.1 hu; rfl
theorem icl_one (is : List Int) : ∀ u ∈ icl is, u.oneCell' = true := by
  intro u hu; unfold icl at hu; obtain ⟨x, _, rfl⟩ := List.mem_map.1 hu; rfl
theorem Vl.one (v : Vl) : ∀ u ∈ v.cells, u.oneCell' = true := by
  intro u hu; simp [Vl.cells] at hu; rcases hu with rfl | rfl | rfl <;> rfl
theorem vcl_one (vs : List Vl) : ∀ u ∈ vcl vs, u.oneCell' = true := by
  intro u hu; unfold vcl at hu; obtain ⟨x, _, h⟩ := List.mem_flatMap.1 hu; exact x.one u h
theorem vcl_cons (v : Vl) (r : List Vl) : vcl (v :: r) = v.cells ++ vcl r := by simp [vcl]
theorem vcl_append (a b : List Vl) : vcl (a ++ b) = vcl a ++ vcl b := by simp [vcl]
theorem kcl_append (a b : List ByteArray) : kcl (a ++ b) = kcl a ++ kcl b := by simp [kcl]
theorem kcl_length (ks : List ByteArray) : (kcl ks).length = ks.length := by simp [kcl]
theorem icl_length (ks : List Int) : (icl ks).length = ks.length := by simp [icl]
theorem vcl_length : ∀ vs : List Vl, (vcl vs).length = vs.length * 3
  | [] => rfl
  | v :: r => by rw [vcl_cons, List.length_append, vcl_length r]; simp [Vl.cells]; omega
theorem vcl_take : ∀ (i : Nat) (vs : List Vl), (vcl vs).take (i * 3) = vcl (vs.take i)
  | 0, vs => by simp [vcl]
  | i + 1, [] => by simp [vcl]
  | i + 1, v :: r => by
    rw [List.take_succ_cons, vcl_cons, vcl_cons, ← vcl_take i r, Nat.add_mul, Nat.one_mul, Nat.add_comm (i * 3) 3]
    simp [Vl.cells]
    rw [show 3 + i * 3 = i * 3 + 1 + 1 + 1 by omega]
    simp
theorem vcl_drop : ∀ (i : Nat) (vs : List Vl), (vcl vs).drop (i * 3) = vcl (vs.drop i)
  | 0, vs => by simp
  | i + 1, [] => by simp [vcl]
  | i + 1, v :: r => by
    rw [List.drop_succ_cons, vcl_cons, ← vcl_drop i r, show (i + 1) * 3 = i * 3 + 1 + 1 + 1 by omega]
    simp [Vl.cells]
theorem vcl_at {vs : List Vl} {i : Nat} {v : Vl} (h : vs[i]? = some v) : (vcl vs)[i * 3]? = some (.string v.d) ∧ (vcl vs)[i * 3 + 1]? = some (.int .i64 v.p) ∧ (vcl vs)[i * 3 + 2]? = some (.int .i64 v.l) := by
  have hl := (List.getElem?_eq_some_iff.1 h).1
  have e : vcl vs = vcl (vs.take i) ++ (v.cells ++ vcl (vs.drop (i + 1))) := by
    have := List.getElem_cons_drop hl
    rw [(List.getElem?_eq_some_iff.1 h).2] at this
    rw [← vcl_cons, this, ← vcl_append, List.take_append_drop]
  have hn : (vcl (vs.take i)).length = i * 3 := by rw [vcl_length, List.length_take]; omega
  rw [e]
  refine ⟨?_, ?_, ?_⟩
  · rw [List.getElem?_append_right (by omega), hn]; simp [Vl.cells]
  · rw [List.getElem?_append_right (by omega), hn, show i * 3 + 1 - i * 3 = 1 by omega]; simp [Vl.cells]
  · rw [List.getElem?_append_right (by omega), hn, show i * 3 + 2 - i * 3 = 2 by omega]; simp [Vl.cells]
theorem kcl_at {ks : List ByteArray} {i : Nat} {k : ByteArray} (h : ks[i]? = some k) : (kcl ks)[i]? = some (.string k) := by simp [kcl, h]
theorem icl_at {ks : List Int} {i : Nat} {k : Int} (h : ks[i]? = some k) : (icl ks)[i]? = some (.int .i64 k) := by simp [icl, h]

def ins {α : Type} (l : List α) (i : Nat) (x : α) : List α := l.take i ++ x :: l.drop i
def del {α : Type} (l : List α) (i : Nat) : List α := l.take i ++ l.drop (i + 1)

theorem ins_length {α : Type} (l : List α) (i : Nat) (x : α) (h : i ≤ l.length) : (ins l i x).length = l.length + 1 := by simp [ins]; omega
theorem del_length {α : Type} (l : List α) (i : Nat) (h : i < l.length) : (del l i).length = l.length - 1 := by simp [del]; omega

def setK (ks : List ByteArray) (key : ByteArray) : List ByteArray := if isk key ks = true then ks else ins ks (fnd key ks) key
def setV (ks : List ByteArray) (vs : List Vl) (key : ByteArray) (v : Vl) : List Vl := if isk key ks = true then vs.set (fnd key ks) v else ins vs (fnd key ks) v

theorem isk_at {key : ByteArray} {ks : List ByteArray} (h : isk key ks = true) : ks[fnd key ks]? = some key := by simpa [isk] using h

theorem isk_lt {key : ByteArray} {ks : List ByteArray} (h : isk key ks = true) : fnd key ks < ks.length := (List.getElem?_eq_some_iff.1 (isk_at h)).1
theorem setK_length (ks : List ByteArray) (key : ByteArray) : (setK ks key).length = if isk key ks = true then ks.length else ks.length + 1 := by
  unfold setK
  split
  · rfl
  · exact ins_length _ _ _ (fnd_le _ _)
theorem setV_length (ks : List ByteArray) (vs : List Vl) (key : ByteArray) (v : Vl) (h : vs.length = ks.length) : (setV ks vs key v).length = (setK ks key).length := by
  rw [setK_length]
  unfold setV
  split
  · simp [h]
  · rw [ins_length _ _ _ (by rw [h]; exact fnd_le _ _), h]
end Go.Proofs.YtifeihnhkbagpaaGreatDoor.N