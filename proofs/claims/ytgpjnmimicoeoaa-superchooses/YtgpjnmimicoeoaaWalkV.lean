/- The walk of the law on which of two states is told. Conditions: numbers are within their kinds. -/
import Derived.Test.YtgpjnmimicoeoaaWalkT
import Derived.Deep.CutRange
namespace Go.Proofs.Ytgpjnmimicoeoaa
open Go.ChangeShapes Go.WideShapes Go.ChangeAt Go.RowKit
attribute [local go_sem ↓] Go.wp_at_zero Go.wp_at_succ

/-- Four states in memory, each in a block of its own. -/
structure Four (w : World) (g1 g2 : Nat) (r1 r2 : Int) (bx c : Nat) (wx : World) : Prop where
  a : Sp wx w.heap.size g1 r1
  b : Sp wx (w.heap.size + 1) g2 r2
  x : Sp wx bx g1 r1
  y : Sp wx c g2 r2
  ne : bx ≠ c
  xa : w.heap.size + 1 < bx
  ya : w.heap.size + 1 < c
  kept : Kept w wx

theorem four_up (w : World) (g1 g2 : Nat) (r1 r2 : Int) : Four w g1 g2 r1 r2 (w.heap.size + 1 + 1) (w.heap.size + 1 + 1 + 1)
    ((((w.alloc (.cells #[.int .u64 (g1 : Nat), .int .i64 r1] 24)).alloc (.cells #[.int .u64 (g2 : Nat), .int .i64 r2] 24)).alloc (.cells #[.int .u64 (g1 : Nat), .int .i64 r1] 24)).alloc (.cells #[.int .u64 (g2 : Nat), .int .i64 r2] 24)).drew := by
  have h1 := Sp.alloc w g1 r1
  have h2 := Sp.alloc (w.alloc (.cells #[.int .u64 (g1 : Nat), .int .i64 r1] 24)) g2 r2
  have h3 := Sp.alloc ((w.alloc (.cells #[.int .u64 (g1 : Nat), .int .i64 r1] 24)).alloc (.cells #[.int .u64 (g2 : Nat), .int .i64 r2] 24)) g1 r1
  have h4 := Sp.alloc (((w.alloc (.cells #[.int .u64 (g1 : Nat), .int .i64 r1] 24)).alloc (.cells #[.int .u64 (g2 : Nat), .int .i64 r2] 24)).alloc (.cells #[.int .u64 (g1 : Nat), .int .i64 r1] 24)) g2 r2
  have z : ∀ (W : World) (o : Obj), (W.alloc o).heap.size = W.heap.size + 1 := fun W o => by simp
  rw [z] at h2
  rw [z, z] at h3
  rw [z, z, z] at h4
  refine ⟨?_, ?_, ?_, ?_, by omega, by omega, by omega, ((((Kept.refl w).alloc _).alloc _).alloc _).alloc _ |>.drew⟩
  · exact ((((Kept.refl _).alloc _).alloc _).alloc _).drew.sp h1
  · exact (((Kept.refl _).alloc _).alloc _).drew.sp h2
  · exact ((Kept.refl _).alloc _).drew.sp h3
  · exact (Kept.refl _).drew.sp h4

theorem four_down (w : World) (g1 g2 : Nat) (r1 r2 : Int) : Four w g1 g2 r1 r2 (w.heap.size + 1 + 1 + 1) (w.heap.size + 1 + 1)
    ((((w.alloc (.cells #[.int .u64 (g1 : Nat), .int .i64 r1] 24)).alloc (.cells #[.int .u64 (g2 : Nat), .int .i64 r2] 24)).alloc (.cells #[.int .u64 (g2 : Nat), .int .i64 r2] 24)).alloc (.cells #[.int .u64 (g1 : Nat), .int .i64 r1] 24)).drew := by
  have h1 := Sp.alloc w g1 r1
  have h2 := Sp.alloc (w.alloc (.cells #[.int .u64 (g1 : Nat), .int .i64 r1] 24)) g2 r2
  have h3 := Sp.alloc ((w.alloc (.cells #[.int .u64 (g1 : Nat), .int .i64 r1] 24)).alloc (.cells #[.int .u64 (g2 : Nat), .int .i64 r2] 24)) g2 r2
  have h4 := Sp.alloc (((w.alloc (.cells #[.int .u64 (g1 : Nat), .int .i64 r1] 24)).alloc (.cells #[.int .u64 (g2 : Nat), .int .i64 r2] 24)).alloc (.cells #[.int .u64 (g2 : Nat), .int .i64 r2] 24)) g1 r1
  have z : ∀ (W : World) (o : Obj), (W.alloc o).heap.size = W.heap.size + 1 := fun W o => by simp
  rw [z] at h2
  rw [z, z] at h3
  rw [z, z, z] at h4
  refine ⟨?_, ?_, ?_, ?_, by omega, by omega, by omega, ((((Kept.refl w).alloc _).alloc _).alloc _).alloc _ |>.drew⟩
  · exact ((((Kept.refl _).alloc _).alloc _).alloc _).drew.sp h1
  · exact (((Kept.refl _).alloc _).alloc _).drew.sp h2
  · exact (Kept.refl _).drew.sp h4
  · exact ((Kept.refl _).alloc _).drew.sp h3

set_option maxRecDepth 100000 in
set_option maxHeartbeats 4000000 in
theorem chooses_A (g1 g2 A1 A2 B2 X1 X2 : Nat) (r1 r2 t m1 m2 : Int) (e1 : bits .and .u64 (g1 : Int) 1023 = (A1 : Int)) (e2 : bits .and .u64 (g2 : Int) 1023 = (A2 : Int))
    (u1 : IntKind.u64.wrap ((A1 : Int) * 2) = (X1 : Int)) (u2 : IntKind.u64.wrap ((A2 : Int) * 2) = (B2 : Int)) (u3 : IntKind.u64.wrap ((B2 : Int) + 1) = (X2 : Int))
    (hm1 : bits .and .i64 t 1 = m1) (hm2 : bits .and .i64 t 2 = m2) (S T S2 T2 : ByteArray) (b1 b2 p q o ok : Bool) (hb1 : (m1 == 1) = b1) (hb2 : (m2 == 2) = b2)
    (hS2 : S2 = if b1 = true then ⟨#[]⟩ else S) (hT2 : T2 = if b2 = true then ⟨#[]⟩ else T) (hp : S2.toList.isEmpty = p) (hq : T2.toList.isEmpty = q) (ho : decide ((X2 : Int) < (X1 : Int)) = o)
    (C R : Int) (hok : ok = (!p || !q)) (hC : C = if p = false ∧ (q = true ∨ o = true) then (X1 : Int) else if q = false then (X2 : Int) else 0) (hR : R = if p = false ∧ (q = true ∨ o = true) then r1 else if q = false then r2 else 0)
    (fx : ∀ W, Calls Try.prog 10 #[.agg #[.int .u64 (X1 : Nat), .int .i64 r1]] W fun e w' => e = .returned (.string S) ∧ Kept W w')
    (fy : ∀ W, Calls Try.prog 10 #[.agg #[.int .u64 (X2 : Nat), .int .i64 r2]] W fun e w' => e = .returned (.string T) ∧ Kept W w')
    (f14 : ∀ W, Calls Try.prog 14 #[.string S2, .string T2] W fun e w' => e = .returned (.tuple #[.agg #[.int .u64 C, .int .i64 R], .bool ok]) ∧ Kept W w') (w : World) :
    Calls Try.prog 5 #[.agg #[.int .u64 (g1 : Nat), .int .i64 r1], .agg #[.int .u64 (g2 : Nat), .int .i64 r2], .int .i64 t] w fun e w' => e = .returned (.bool true) ∧ Kept w w' := by
  have HP : Hid (S2.toList.isEmpty = p ∧ T2.toList.isEmpty = q ∧ decide ((X2 : Int) < (X1 : Int)) = o ∧ (S2 = if b1 = true then ⟨#[]⟩ else S) ∧ (T2 = if b2 = true then ⟨#[]⟩ else T) ∧ (m1 == 1) = b1 ∧ (m2 == 2) = b2) := ⟨hp, hq, ho, hS2, hT2, hb1, hb2⟩
  have HR : Hid (ok = (!p || !q) ∧ (C = if p = false ∧ (q = true ∨ o = true) then (X1 : Int) else if q = false then (X2 : Int) else 0) ∧ (R = if p = false ∧ (q = true ∨ o = true) then r1 else if q = false then r2 else 0)) := ⟨hok, hC, hR⟩
  clear hp hq ho hS2 hT2 hb1 hb2 hok hC hR
  have U1 : Hid _ := four_up w g1 g2 r1 r2
  have U2 : Hid _ := four_down w g1 g2 r1 r2
  go_enter Try.func5, Try.ntmps5
  go_upto_region 1 with fail
  go_cut [7, 8] from 15 to 16 (fun v7 v8 wx => ∃ bx c, v7 = .pointer (some ⟨bx, 0, none⟩) ∧ v8 = .pointer (some ⟨c, 0, none⟩) ∧ Four w g1 g2 r1 r2 bx c wx)
  case first =>
    go_region_held3 (fun W => W.cell? ⟨w.heap.size, 0, none⟩ = some (.int .u64 (g1 : Nat)) ∧ W.cell? ⟨w.heap.size, 1, none⟩ = some (.int .i64 r1) ∧ W.cell? ⟨w.heap.size + 1, 0, none⟩ = some (.int .u64 (g2 : Nat)) ∧ W.cell? ⟨w.heap.size + 1, 1, none⟩ = some (.int .i64 r2)) (go_keep) (fail)
    all_goals go_wp2_with fail
    all_goals go_meet
    all_goals first
      | exact ⟨_, _, rfl, rfl, U1.out⟩
      | exact ⟨_, _, rfl, rfl, U2.out⟩
  case rest =>
    obtain ⟨bx, c, rfl, rfl, hf⟩ := hcut
    clear U1 U2
    have a0 := hf.a.cs.1
    have b0 := hf.b.cs.1
    have x0 := hf.x.cs.1
    have xf := hf.x.fz 0
    have hxa := hf.xa
    have hya := hf.ya
    have hne := hf.ne
    have a1 : ∀ v, (wc.setCell ⟨bx, 0, none⟩ v).cell? ⟨w.heap.size, 0, none⟩ = some (.int .u64 (g1 : Nat)) := fun v => (hf.a.far ⟨bx, 0, none⟩ v (by show w.heap.size ≠ bx; omega)).cs.1
    have b1 : ∀ v, (wc.setCell ⟨bx, 0, none⟩ v).cell? ⟨w.heap.size + 1, 0, none⟩ = some (.int .u64 (g2 : Nat)) := fun v => (hf.b.far ⟨bx, 0, none⟩ v (by show w.heap.size + 1 ≠ bx; omega)).cs.1
    have y0 : ∀ v, (wc.setCell ⟨bx, 0, none⟩ v).cell? ⟨c, 0, none⟩ = some (.int .u64 (g2 : Nat)) := fun v => (hf.y.far ⟨bx, 0, none⟩ v (by show c ≠ bx; omega)).cs.1
    have yf : ∀ v, (wc.setCell ⟨bx, 0, none⟩ v).frozen? ⟨c, 0, none⟩ = false := fun v => (hf.y.far ⟨bx, 0, none⟩ v (by show c ≠ bx; omega)).fz 0
    have a2 : ∀ v u, ((wc.setCell ⟨bx, 0, none⟩ v).setCell ⟨c, 0, none⟩ u).cell? ⟨w.heap.size, 0, none⟩ = some (.int .u64 (g1 : Nat)) := fun v u => ((hf.a.far ⟨bx, 0, none⟩ v (by show w.heap.size ≠ bx; omega)).far ⟨c, 0, none⟩ u (by show w.heap.size ≠ c; omega)).cs.1
    have b2 : ∀ v u, ((wc.setCell ⟨bx, 0, none⟩ v).setCell ⟨c, 0, none⟩ u).cell? ⟨w.heap.size + 1, 0, none⟩ = some (.int .u64 (g2 : Nat)) := fun v u => ((hf.b.far ⟨bx, 0, none⟩ v (by show w.heap.size + 1 ≠ bx; omega)).far ⟨c, 0, none⟩ u (by show w.heap.size + 1 ≠ c; omega)).cs.1
    have HF : Hid (Four w g1 g2 r1 r2 bx c wc) := hf
    clear hf
    go_upto_region 2 with fail
    go_cut [] from 17 to 27 (fun wx => Sp wx bx X1 r1 ∧ Sp wx c X2 r2 ∧ Kept w wx)
    case first =>
      go_region_held3 (fun W => W.cell? ⟨w.heap.size, 0, none⟩ = some (.int .u64 (g1 : Nat)) ∧ W.cell? ⟨w.heap.size + 1, 0, none⟩ = some (.int .u64 (g2 : Nat))) (go_keep) (fail)
      all_goals go_wp2_with fail
      all_goals go_meet
      all_goals exact ⟨(Kept.refl _).drew.sp ((HF.out.x.set0 X1).far ⟨c, 0, none⟩ _ hne), (Kept.refl _).drew.sp ((HF.out.y.far ⟨bx, 0, none⟩ _ (Ne.symm hne)).set0 X2), ((HF.out.kept.set (by show w.heap.size ≤ bx; omega) _).set (by show w.heap.size ≤ c; omega) _).drew⟩
    case rest =>
      obtain ⟨hx, hy, hk⟩ := hcut
      clear a0 b0 x0 xf hxa hya hne a1 b1 y0 yf a2 b2 HF e1 e2 u1 u2 u3
      have hx := (Kept.refl wc).drew.sp hx
      have hy := (Kept.refl wc).drew.sp hy
      have hk := hk.drew
      obtain ⟨x0, x1⟩ := hx.cs
      obtain ⟨y0, y1⟩ := hy.cs
      go_upto_region 3 with fail
      go_cut [9, 10] from 28 to 31 (fun v9 v10 wx => v9 = .string S ∧ v10 = .string T ∧ Sp wx bx X1 r1 ∧ Sp wx c X2 r2 ∧ Kept w wx)
      case first =>
        go_region_held3 (fun W => W.cell? ⟨bx, 0, none⟩ = some (.int .u64 (X1 : Nat)) ∧ W.cell? ⟨bx, 1, none⟩ = some (.int .i64 r1) ∧ W.cell? ⟨c, 0, none⟩ = some (.int .u64 (X2 : Nat)) ∧ W.cell? ⟨c, 1, none⟩ = some (.int .i64 r2)) (go_keep) (first
          | (go_at_call 10; (with_reducible refine (fx _).mono ?_); rintro e v1 ⟨rfl, q1⟩; have hx1 := q1.sp hx; have hy1 := q1.sp hy; obtain ⟨x10, x11⟩ := hx1.cs; obtain ⟨y10, y11⟩ := hy1.cs)
          | (go_at_call 10; (with_reducible refine (fy _).mono ?_); rintro e v2 ⟨rfl, q2⟩; have hx2 := q2.sp hx1; have hy2 := q2.sp hy1; obtain ⟨x20, x21⟩ := hx2.cs; obtain ⟨y20, y21⟩ := hy2.cs))
        all_goals go_wp2_with fail
        all_goals go_meet
        all_goals exact ⟨rfl, rfl, hx2, hy2, (hk.trans q1).trans q2⟩
      case rest =>
        obtain ⟨rfl, rfl, hx3, hy3, hk3⟩ := hcut
        clear hx hy hk x0 x1 y0 y1
        obtain ⟨x0, x1⟩ := hx3.cs
        obtain ⟨y0, y1⟩ := hy3.cs
        obtain ⟨ep, eq, eo, eS, eT, em1, em2⟩ := HP.out
        obtain ⟨eok, eC, eR⟩ := HR.out
        clear HP HR
        cases b1
        case false =>
          cases b2
          case false =>
            cases p
            case false =>
              cases q
              case false =>
                cases o
                case false =>
                  have eo2 := of_decide_eq_false eo
                  clear eo
                  simp at eS eT eok eC eR
                  subst eS eT eok
                  rw [eC, eR] at f14
                  clear eC eR
                  go_wp2_with (first
                    | (go_at_call 14; (with_reducible refine (f14 _).mono ?_); rintro e v4 ⟨rfl, q4⟩; have k4 : ∀ o1 o2, Kept v4 ((v4.alloc o1).alloc o2) := (fun o1 o2 => ((Kept.refl v4).alloc o1).alloc o2); have x40 := (fun o1 o2 => ((k4 o1 o2).sp (q4.sp hx3)).cs.1); have x41 := (fun o1 o2 => ((k4 o1 o2).sp (q4.sp hx3)).cs.2); have y40 := (fun o1 o2 => ((k4 o1 o2).sp (q4.sp hy3)).cs.1); have y41 := (fun o1 o2 => ((k4 o1 o2).sp (q4.sp hy3)).cs.2))
                    | (go_at_call 9; (with_reducible refine (awake_walk _).mono ?_); rintro e v5 ⟨rfl, q5⟩; have G5 := q5.sp (((Kept.refl _).alloc (.cells #[.int .u64 (X2 : Nat), .int .i64 r2] 24)).sp (Sp.alloc v4 X2 r2)); have W5 := q5.sp (Sp.alloc (v4.alloc (.cells #[.int .u64 (X2 : Nat), .int .i64 r2] 24)) X2 r2); rw [show (v4.alloc (.cells #[.int .u64 (X2 : Nat), .int .i64 r2] 24)).heap.size = v4.heap.size + 1 by simp] at W5; obtain ⟨g50, g51⟩ := G5.cs; obtain ⟨w50, w51⟩ := W5.cs))
                  go_ret
                  exact ⟨rfl, (((hk3.trans q4).alloc _).alloc _).trans q5⟩
                case true =>
                  have eo2 := of_decide_eq_true eo
                  clear eo
                  simp at eS eT eok eC eR
                  subst eS eT eok
                  rw [eC, eR] at f14
                  clear eC eR
                  go_wp2_with (first
                    | (go_at_call 14; (with_reducible refine (f14 _).mono ?_); rintro e v4 ⟨rfl, q4⟩; have k4 : ∀ o1 o2, Kept v4 ((v4.alloc o1).alloc o2) := (fun o1 o2 => ((Kept.refl v4).alloc o1).alloc o2); have x40 := (fun o1 o2 => ((k4 o1 o2).sp (q4.sp hx3)).cs.1); have x41 := (fun o1 o2 => ((k4 o1 o2).sp (q4.sp hx3)).cs.2); have y40 := (fun o1 o2 => ((k4 o1 o2).sp (q4.sp hy3)).cs.1); have y41 := (fun o1 o2 => ((k4 o1 o2).sp (q4.sp hy3)).cs.2))
                    | (go_at_call 9; (with_reducible refine (awake_walk _).mono ?_); rintro e v5 ⟨rfl, q5⟩; have G5 := q5.sp (((Kept.refl _).alloc (.cells #[.int .u64 (X1 : Nat), .int .i64 r1] 24)).sp (Sp.alloc v4 X1 r1)); have W5 := q5.sp (Sp.alloc (v4.alloc (.cells #[.int .u64 (X1 : Nat), .int .i64 r1] 24)) X1 r1); rw [show (v4.alloc (.cells #[.int .u64 (X1 : Nat), .int .i64 r1] 24)).heap.size = v4.heap.size + 1 by simp] at W5; obtain ⟨g50, g51⟩ := G5.cs; obtain ⟨w50, w51⟩ := W5.cs))
                  go_ret
                  exact ⟨rfl, (((hk3.trans q4).alloc _).alloc _).trans q5⟩
              case true =>
                simp at eS eT eok eC eR
                subst eS eT eok
                rw [eC, eR] at f14
                clear eC eR
                go_wp2_with (first
                  | (go_at_call 14; (with_reducible refine (f14 _).mono ?_); rintro e v4 ⟨rfl, q4⟩; have k4 : ∀ o1 o2, Kept v4 ((v4.alloc o1).alloc o2) := (fun o1 o2 => ((Kept.refl v4).alloc o1).alloc o2); have x40 := (fun o1 o2 => ((k4 o1 o2).sp (q4.sp hx3)).cs.1); have x41 := (fun o1 o2 => ((k4 o1 o2).sp (q4.sp hx3)).cs.2); have y40 := (fun o1 o2 => ((k4 o1 o2).sp (q4.sp hy3)).cs.1); have y41 := (fun o1 o2 => ((k4 o1 o2).sp (q4.sp hy3)).cs.2))
                  | (go_at_call 9; (with_reducible refine (awake_walk _).mono ?_); rintro e v5 ⟨rfl, q5⟩; have G5 := q5.sp (((Kept.refl _).alloc (.cells #[.int .u64 (X1 : Nat), .int .i64 r1] 24)).sp (Sp.alloc v4 X1 r1)); have W5 := q5.sp (Sp.alloc (v4.alloc (.cells #[.int .u64 (X1 : Nat), .int .i64 r1] 24)) X1 r1); rw [show (v4.alloc (.cells #[.int .u64 (X1 : Nat), .int .i64 r1] 24)).heap.size = v4.heap.size + 1 by simp] at W5; obtain ⟨g50, g51⟩ := G5.cs; obtain ⟨w50, w51⟩ := W5.cs))
                go_ret
                exact ⟨rfl, (((hk3.trans q4).alloc _).alloc _).trans q5⟩
            case true =>
              cases q
              case false =>
                simp at eS eT eok eC eR
                subst eS eT eok
                rw [eC, eR] at f14
                clear eC eR
                go_wp2_with (first
                  | (go_at_call 14; (with_reducible refine (f14 _).mono ?_); rintro e v4 ⟨rfl, q4⟩; have k4 : ∀ o1 o2, Kept v4 ((v4.alloc o1).alloc o2) := (fun o1 o2 => ((Kept.refl v4).alloc o1).alloc o2); have x40 := (fun o1 o2 => ((k4 o1 o2).sp (q4.sp hx3)).cs.1); have x41 := (fun o1 o2 => ((k4 o1 o2).sp (q4.sp hx3)).cs.2); have y40 := (fun o1 o2 => ((k4 o1 o2).sp (q4.sp hy3)).cs.1); have y41 := (fun o1 o2 => ((k4 o1 o2).sp (q4.sp hy3)).cs.2))
                  | (go_at_call 9; (with_reducible refine (awake_walk _).mono ?_); rintro e v5 ⟨rfl, q5⟩; have G5 := q5.sp (((Kept.refl _).alloc (.cells #[.int .u64 (X2 : Nat), .int .i64 r2] 24)).sp (Sp.alloc v4 X2 r2)); have W5 := q5.sp (Sp.alloc (v4.alloc (.cells #[.int .u64 (X2 : Nat), .int .i64 r2] 24)) X2 r2); rw [show (v4.alloc (.cells #[.int .u64 (X2 : Nat), .int .i64 r2] 24)).heap.size = v4.heap.size + 1 by simp] at W5; obtain ⟨g50, g51⟩ := G5.cs; obtain ⟨w50, w51⟩ := W5.cs))
                go_ret
                exact ⟨rfl, (((hk3.trans q4).alloc _).alloc _).trans q5⟩
              case true =>
                simp at eS eT eok eC eR
                subst eS eT eok
                rw [eC, eR] at f14
                clear eC eR
                go_wp2_with (first
                  | (go_at_call 14; (with_reducible refine (f14 _).mono ?_); rintro e v4 ⟨rfl, q4⟩; have k4 : ∀ o1 o2, Kept v4 ((v4.alloc o1).alloc o2) := (fun o1 o2 => ((Kept.refl v4).alloc o1).alloc o2); have x40 := (fun o1 o2 => ((k4 o1 o2).sp (q4.sp hx3)).cs.1); have x41 := (fun o1 o2 => ((k4 o1 o2).sp (q4.sp hx3)).cs.2); have y40 := (fun o1 o2 => ((k4 o1 o2).sp (q4.sp hy3)).cs.1); have y41 := (fun o1 o2 => ((k4 o1 o2).sp (q4.sp hy3)).cs.2))
                  | (go_at_call 9; (with_reducible refine (awake_walk _).mono ?_); rintro e v5 ⟨rfl, q5⟩; have G5 := q5.sp (((Kept.refl _).alloc (.cells #[.int .u64 0, .int .i64 0] 24)).sp (Sp.alloc v4 0 0)); have W5 := q5.sp (Sp.alloc (v4.alloc (.cells #[.int .u64 0, .int .i64 0] 24)) 0 0); rw [show (v4.alloc (.cells #[.int .u64 0, .int .i64 0] 24)).heap.size = v4.heap.size + 1 by simp] at W5; obtain ⟨g50, g51⟩ := G5.cs; obtain ⟨w50, w51⟩ := W5.cs))
                go_ret
                exact ⟨rfl, (((hk3.trans q4).alloc _).alloc _).trans q5⟩
          case true =>
            cases p
            case false =>
              cases q
              case false =>
                simp at eS eT
                subst eS eT
                exact absurd eq (by rw [ByteArray.toList_mk]; decide)
              case true =>
                simp at eS eT eok eC eR
                subst eS eT eok
                rw [eC, eR] at f14
                clear eC eR
                go_wp2_with (first
                  | (go_at_call 14; (with_reducible refine (f14 _).mono ?_); rintro e v4 ⟨rfl, q4⟩; have k4 : ∀ o1 o2, Kept v4 ((v4.alloc o1).alloc o2) := (fun o1 o2 => ((Kept.refl v4).alloc o1).alloc o2); have x40 := (fun o1 o2 => ((k4 o1 o2).sp (q4.sp hx3)).cs.1); have x41 := (fun o1 o2 => ((k4 o1 o2).sp (q4.sp hx3)).cs.2); have y40 := (fun o1 o2 => ((k4 o1 o2).sp (q4.sp hy3)).cs.1); have y41 := (fun o1 o2 => ((k4 o1 o2).sp (q4.sp hy3)).cs.2))
                  | (go_at_call 9; (with_reducible refine (awake_walk _).mono ?_); rintro e v5 ⟨rfl, q5⟩; have G5 := q5.sp (((Kept.refl _).alloc (.cells #[.int .u64 (X1 : Nat), .int .i64 r1] 24)).sp (Sp.alloc v4 X1 r1)); have W5 := q5.sp (Sp.alloc (v4.alloc (.cells #[.int .u64 (X1 : Nat), .int .i64 r1] 24)) X1 r1); rw [show (v4.alloc (.cells #[.int .u64 (X1 : Nat), .int .i64 r1] 24)).heap.size = v4.heap.size + 1 by simp] at W5; obtain ⟨g50, g51⟩ := G5.cs; obtain ⟨w50, w51⟩ := W5.cs))
                go_ret
                exact ⟨rfl, (((hk3.trans q4).alloc _).alloc _).trans q5⟩
            case true =>
              cases q
              case false =>
                simp at eS eT
                subst eS eT
                exact absurd eq (by rw [ByteArray.toList_mk]; decide)
              case true =>
                simp at eS eT eok eC eR
                subst eS eT eok
                rw [eC, eR] at f14
                clear eC eR
                go_wp2_with (first
                  | (go_at_call 14; (with_reducible refine (f14 _).mono ?_); rintro e v4 ⟨rfl, q4⟩; have k4 : ∀ o1 o2, Kept v4 ((v4.alloc o1).alloc o2) := (fun o1 o2 => ((Kept.refl v4).alloc o1).alloc o2); have x40 := (fun o1 o2 => ((k4 o1 o2).sp (q4.sp hx3)).cs.1); have x41 := (fun o1 o2 => ((k4 o1 o2).sp (q4.sp hx3)).cs.2); have y40 := (fun o1 o2 => ((k4 o1 o2).sp (q4.sp hy3)).cs.1); have y41 := (fun o1 o2 => ((k4 o1 o2).sp (q4.sp hy3)).cs.2))
                  | (go_at_call 9; (with_reducible refine (awake_walk _).mono ?_); rintro e v5 ⟨rfl, q5⟩; have G5 := q5.sp (((Kept.refl _).alloc (.cells #[.int .u64 0, .int .i64 0] 24)).sp (Sp.alloc v4 0 0)); have W5 := q5.sp (Sp.alloc (v4.alloc (.cells #[.int .u64 0, .int .i64 0] 24)) 0 0); rw [show (v4.alloc (.cells #[.int .u64 0, .int .i64 0] 24)).heap.size = v4.heap.size + 1 by simp] at W5; obtain ⟨g50, g51⟩ := G5.cs; obtain ⟨w50, w51⟩ := W5.cs))
                go_ret
                exact ⟨rfl, (((hk3.trans q4).alloc _).alloc _).trans q5⟩
        case true =>
          cases b2
          case false =>
            cases p
            case false =>
              simp at eS eT
              subst eS eT
              exact absurd ep (by rw [ByteArray.toList_mk]; decide)
            case true =>
              cases q
              case false =>
                simp at eS eT eok eC eR
                subst eS eT eok
                rw [eC, eR] at f14
                clear eC eR
                go_wp2_with (first
                  | (go_at_call 14; (with_reducible refine (f14 _).mono ?_); rintro e v4 ⟨rfl, q4⟩; have k4 : ∀ o1 o2, Kept v4 ((v4.alloc o1).alloc o2) := (fun o1 o2 => ((Kept.refl v4).alloc o1).alloc o2); have x40 := (fun o1 o2 => ((k4 o1 o2).sp (q4.sp hx3)).cs.1); have x41 := (fun o1 o2 => ((k4 o1 o2).sp (q4.sp hx3)).cs.2); have y40 := (fun o1 o2 => ((k4 o1 o2).sp (q4.sp hy3)).cs.1); have y41 := (fun o1 o2 => ((k4 o1 o2).sp (q4.sp hy3)).cs.2))
                  | (go_at_call 9; (with_reducible refine (awake_walk _).mono ?_); rintro e v5 ⟨rfl, q5⟩; have G5 := q5.sp (((Kept.refl _).alloc (.cells #[.int .u64 (X2 : Nat), .int .i64 r2] 24)).sp (Sp.alloc v4 X2 r2)); have W5 := q5.sp (Sp.alloc (v4.alloc (.cells #[.int .u64 (X2 : Nat), .int .i64 r2] 24)) X2 r2); rw [show (v4.alloc (.cells #[.int .u64 (X2 : Nat), .int .i64 r2] 24)).heap.size = v4.heap.size + 1 by simp] at W5; obtain ⟨g50, g51⟩ := G5.cs; obtain ⟨w50, w51⟩ := W5.cs))
                go_ret
                exact ⟨rfl, (((hk3.trans q4).alloc _).alloc _).trans q5⟩
              case true =>
                simp at eS eT eok eC eR
                subst eS eT eok
                rw [eC, eR] at f14
                clear eC eR
                go_wp2_with (first
                  | (go_at_call 14; (with_reducible refine (f14 _).mono ?_); rintro e v4 ⟨rfl, q4⟩; have k4 : ∀ o1 o2, Kept v4 ((v4.alloc o1).alloc o2) := (fun o1 o2 => ((Kept.refl v4).alloc o1).alloc o2); have x40 := (fun o1 o2 => ((k4 o1 o2).sp (q4.sp hx3)).cs.1); have x41 := (fun o1 o2 => ((k4 o1 o2).sp (q4.sp hx3)).cs.2); have y40 := (fun o1 o2 => ((k4 o1 o2).sp (q4.sp hy3)).cs.1); have y41 := (fun o1 o2 => ((k4 o1 o2).sp (q4.sp hy3)).cs.2))
                  | (go_at_call 9; (with_reducible refine (awake_walk _).mono ?_); rintro e v5 ⟨rfl, q5⟩; have G5 := q5.sp (((Kept.refl _).alloc (.cells #[.int .u64 0, .int .i64 0] 24)).sp (Sp.alloc v4 0 0)); have W5 := q5.sp (Sp.alloc (v4.alloc (.cells #[.int .u64 0, .int .i64 0] 24)) 0 0); rw [show (v4.alloc (.cells #[.int .u64 0, .int .i64 0] 24)).heap.size = v4.heap.size + 1 by simp] at W5; obtain ⟨g50, g51⟩ := G5.cs; obtain ⟨w50, w51⟩ := W5.cs))
                go_ret
                exact ⟨rfl, (((hk3.trans q4).alloc _).alloc _).trans q5⟩
          case true =>
            cases p
            case false =>
              simp at eS eT
              subst eS eT
              exact absurd ep (by rw [ByteArray.toList_mk]; decide)
            case true =>
              cases q
              case false =>
                simp at eS eT
                subst eS eT
                exact absurd eq (by rw [ByteArray.toList_mk]; decide)
              case true =>
                simp at eS eT eok eC eR
                subst eS eT eok
                rw [eC, eR] at f14
                clear eC eR
                go_wp2_with (first
                  | (go_at_call 14; (with_reducible refine (f14 _).mono ?_); rintro e v4 ⟨rfl, q4⟩; have k4 : ∀ o1 o2, Kept v4 ((v4.alloc o1).alloc o2) := (fun o1 o2 => ((Kept.refl v4).alloc o1).alloc o2); have x40 := (fun o1 o2 => ((k4 o1 o2).sp (q4.sp hx3)).cs.1); have x41 := (fun o1 o2 => ((k4 o1 o2).sp (q4.sp hx3)).cs.2); have y40 := (fun o1 o2 => ((k4 o1 o2).sp (q4.sp hy3)).cs.1); have y41 := (fun o1 o2 => ((k4 o1 o2).sp (q4.sp hy3)).cs.2))
                  | (go_at_call 9; (with_reducible refine (awake_walk _).mono ?_); rintro e v5 ⟨rfl, q5⟩; have G5 := q5.sp (((Kept.refl _).alloc (.cells #[.int .u64 0, .int .i64 0] 24)).sp (Sp.alloc v4 0 0)); have W5 := q5.sp (Sp.alloc (v4.alloc (.cells #[.int .u64 0, .int .i64 0] 24)) 0 0); rw [show (v4.alloc (.cells #[.int .u64 0, .int .i64 0] 24)).heap.size = v4.heap.size + 1 by simp] at W5; obtain ⟨g50, g51⟩ := G5.cs; obtain ⟨w50, w51⟩ := W5.cs))
                go_ret
                exact ⟨rfl, (((hk3.trans q4).alloc _).alloc _).trans q5⟩
end Go.Proofs.Ytgpjnmimicoeoaa
