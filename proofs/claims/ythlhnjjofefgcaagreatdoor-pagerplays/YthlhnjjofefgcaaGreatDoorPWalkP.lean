/- The walks of super.May, super.Where, super.Put and the statement's own put: a state's sector. Conditions: numbers are within their kinds. -/
import Derived.Test.YthlhnjjofefgcaaGreatDoorPWalkH
import Derived.Test.YthlhnjjofefgcaaGreatDoorPWalkL
namespace Go.Proofs.YthlhnjjofefgcaaGreatDoor.P
open Go.ChangeShapes Go.WideShapes Go.ChangeAt Go.RowKit
attribute [local go_sem ↓] Go.wp_at_zero Go.wp_at_succ

/-- A state in memory. -/
structure Sp (w : World) (b : Nat) (g r : Int) : Prop where
  out : w.heap[b]? = some (.cells #[.int .u64 g, .int .i64 r] 52)

theorem Kept.sp {w w' : World} (h : Kept w w') {b : Nat} {g r : Int} (k : Sp w b g r) : Sp w' b g r := ⟨h.block k.out⟩
theorem Sp.alloc (w : World) (g r : Int) : Sp (w.alloc (.cells #[.int .u64 g, .int .i64 r] 52)) w.heap.size g r :=
  ⟨by show (w.heap.push _)[w.heap.size]? = _; simp⟩
theorem Sp.cs {w : World} {b : Nat} {g r : Int} (k : Sp w b g r) : w.cell? ⟨b, 0, none⟩ = some (.int .u64 g) ∧ w.cell? ⟨b, 1, none⟩ = some (.int .i64 r) := by
  refine ⟨?_, ?_⟩
  all_goals rw [cell_of_row w b _ _ _ _ k.out]
  all_goals rfl
theorem Sp.fz {w : World} {b : Nat} {g r : Int} (k : Sp w b g r) (j : Nat) : w.frozen? ⟨b, j, none⟩ = false := frozen_of_row w b j _ _ k.out
theorem Sp.lt {w : World} {b : Nat} {g r : Int} (k : Sp w b g r) : b < w.heap.size := (Array.getElem?_eq_some_iff.1 k.out).1
theorem Sp.set0 {w : World} {b : Nat} {g r : Int} (k : Sp w b g r) (d : Int) : Sp (w.setCell ⟨b, 0, none⟩ (.int .u64 d)) b d r :=
  ⟨by rw [heap_setCell_same w b 0 _ _ _ k.out]; rfl⟩
theorem Sp.set1 {w : World} {b : Nat} {g r : Int} (k : Sp w b g r) (d : Int) : Sp (w.setCell ⟨b, 1, none⟩ (.int .i64 d)) b g d :=
  ⟨by rw [heap_setCell_same w b 1 _ _ _ k.out]; rfl⟩
theorem Sp.ready {w : World} {b : Nat} {g r : Int} (k : Sp w b g r) (x : Int) :
    (w.cell? ⟨b, 0, none⟩ = some (.int .u64 g) ∧ w.frozen? ⟨b, 0, none⟩ = false) ∧
    (w.setCell ⟨b, 0, none⟩ (.int .u64 x)).cell? ⟨b, 1, none⟩ = some (.int .i64 r) ∧ (w.setCell ⟨b, 0, none⟩ (.int .u64 x)).frozen? ⟨b, 1, none⟩ = false :=
  have k1 := k.set0 x
  ⟨⟨k.cs.1, k.fz 0⟩, k1.cs.2, k1.fz 1⟩
theorem Sp.fill {w : World} {b : Nat} {g r : Int} (k : Sp w b g r) (x y : Int) :
    Sp ((w.setCell ⟨b, 0, none⟩ (.int .u64 x)).setCell ⟨b, 1, none⟩ (.int .i64 y)) b x y := (k.set0 x).set1 y
theorem On.sp {c : Nat} {w w' : World} (h : On c w w') {b : Nat} {g r : Int} (k : Sp w b g r) (hb : b ≠ c) : Sp w' b g r :=
  ⟨(h.rest b k.lt hb).trans k.out⟩
theorem Sp.far {w : World} {b : Nat} {g r : Int} (k : Sp w b g r) (a : Addr) (v : Value) (h : b ≠ a.block) : Sp (w.setCell a v) b g r :=
  ⟨(heap_setCell_other w a b v h).trans k.out⟩

theorem size52 : (Tryz.prog.info? 52).map (·.size) = some 2 := by kernel_rfl

set_option maxRecDepth 100000 in
theorem smay_yes (g : Nat) (r : Int) (h : Sup g r) (w : World) :
    Calls Tryz.prog 30 #[.agg #[.int .u64 (g : Nat), .int .i64 r]] w fun e w' => e = .returned (.bool true) ∧ Kept w w' := by
  have HK : Hid (∀ o, Kept w (w.alloc o)) := fun o => (Kept.refl w).alloc o
  obtain ⟨h1, h2, h3, h4⟩ := h
  have h1' : (1 : Int) ≤ (g : Int) := by omega
  have h2' : (g : Int) < 4611686018427387904 := by omega
  clear h1 h2
  go_enter Tryz.func30, Tryz.ntmps30
  go_wp2
  go_ret
  exact ⟨rfl, HK.out _⟩

set_option maxRecDepth 100000 in
theorem smay_no (g : Nat) (r : Int) (h : ¬ Sup g r) (w : World) :
    Calls Tryz.prog 30 #[.agg #[.int .u64 (g : Nat), .int .i64 r]] w fun e w' => e = .returned (.bool false) ∧ Kept w w' := by
  have HK : Hid (∀ o, Kept w (w.alloc o)) := fun o => (Kept.refl w).alloc o
  by_cases h1 : (1 : Int) ≤ (g : Int)
  · by_cases h2 : (g : Int) < 4611686018427387904
    · by_cases h3 : -1 ≤ r
      · have h4 : ¬ r < 16384 := fun h4 => h ⟨by omega, by omega, h3, h4⟩
        clear h
        go_enter Tryz.func30, Tryz.ntmps30
        go_wp2
        go_ret
        exact ⟨rfl, HK.out _⟩
      · clear h
        go_enter Tryz.func30, Tryz.ntmps30
        go_wp2
        go_ret
        exact ⟨rfl, HK.out _⟩
    · clear h
      go_enter Tryz.func30, Tryz.ntmps30
      go_wp2
      go_ret
      exact ⟨rfl, HK.out _⟩
  · clear h
    go_enter Tryz.func30, Tryz.ntmps30
    go_wp2
    go_ret
    exact ⟨rfl, HK.out _⟩

theorem where_walk (g : Nat) (w : World) : Calls Tryz.prog 65 #[.int .u64 (g : Nat)] w fun e w' => e = .returned (.int .i64 ((g % 2 : Nat) : Int)) ∧ w' = w := by
  go_enter Tryz.func65, Tryz.ntmps65
  go_wp2
  go_ret
  exact ⟨rfl, rfl⟩

theorem where_kept (g : Nat) (w : World) : Calls Tryz.prog 65 #[.int .u64 (g : Nat)] w fun e w' => e = .returned (.int .i64 ((g % 2 : Nat) : Int)) ∧ Kept w w' :=
  (where_walk g w).mono (by rintro e w' ⟨rfl, rfl⟩; exact ⟨rfl, Kept.refl _⟩)

set_option maxRecDepth 100000 in
theorem sput_no (g : Nat) (r : Int) (h : ¬ Sup g r) (w : World) :
    Calls Tryz.prog 66 #[.agg #[.int .u64 (g : Nat), .int .i64 r]] w fun e w' => e = .returned (.string ⟨#[]⟩) ∧ Kept w w' := by
  have h11 := smay_no g r h
  clear h
  go_enter Tryz.func66, Tryz.ntmps66
  go_wp2_with (go_at_call 30; refine (h11 _).mono ?_; rintro e w1 ⟨rfl, k1⟩)
  go_ret
  exact ⟨rfl, ((Kept.refl w).alloc _).trans k1⟩

set_option maxRecDepth 100000 in
set_option maxHeartbeats 4000000 in
theorem sput_yes (g : Nat) (r : Int) (h : Sup g r) (w : World) :
    Calls Tryz.prog 66 #[.agg #[.int .u64 (g : Nat), .int .i64 r]] w fun e w' => e = .returned (.string (bs (supP g r))) ∧ Kept w w' := by
  have h11 := smay_yes g r h
  have h7 := where_kept g
  have h15 := put_walk 1 ((g % 2 : Nat) : Int) g (by have := h.2.1; omega) (numL (r + 1).toNat)
  rw [supP_put h] at h15
  have h16 := num_walk (r + 1).toNat (by have := h.2.2.2; omega)
  have hr1 := h.2.2.1
  have hr2 := h.2.2.2
  have e1 : (((r + 1).toNat : Nat) : Int) = r + 1 := by omega
  rw [e1] at h16
  have u1 : IntKind.u64.wrap (r + 1) = r + 1 := by rw [IntKind.wrap_u64]; omega
  have u2 : IntKind.i64.wrap (r + 1) = r + 1 := by rw [IntKind.wrap_i64]; omega
  generalize bs (numL (r + 1).toNat) = D at *
  generalize bs (supP g r) = R at *
  generalize ((g % 2 : Nat) : Int) = at_ at *
  clear e1 h
  go_enter Tryz.func66, Tryz.ntmps66
  go_wp2_with (go_at_call 30; refine (h11 _).mono ?_; rintro e w1 ⟨rfl, k1⟩; have P0 := (k1.drew).sp (Sp.alloc w g r); obtain ⟨c0, c1⟩ := P0.cs)
  go_region_held3 (fun W => W.cell? ⟨w.heap.size, 0, none⟩ = some (.int .u64 (g : Nat)) ∧ W.cell? ⟨w.heap.size, 1, none⟩ = some (.int .i64 r)) (go_keep) (first
    | (go_at_call 65; with_reducible refine (h7 _).mono ?_; rintro e v1 ⟨rfl, q1⟩; have P1 := q1.sp P0; obtain ⟨c10, c11⟩ := P1.cs)
    | (go_at_call 84; with_reducible refine (h16 _).mono ?_; rintro e v2 ⟨rfl, q2⟩; have P2 := q2.sp P1; obtain ⟨c20, c21⟩ := P2.cs)
    | (go_at_call 52; with_reducible refine (h15 _).mono ?_; rintro e v3 ⟨rfl, q3⟩; have P3 := q3.sp P2; obtain ⟨c30, c31⟩ := P3.cs))
  all_goals go_wp2
  all_goals go_ret
  all_goals exact ⟨rfl, (((((Kept.refl w).alloc _).trans k1).drew.trans q1).trans q2).trans q3⟩

end Go.Proofs.YthlhnjjofefgcaaGreatDoor.P
