/- The walks of awake, of TreeExprs. Conditions: numbers of 64 bits, texts that can be; strconv's table is laid. -/
import Derived.Test.YtgdafolidifdoaaDoorIF
import Derived.Test.YtgdafolidifdoaaDoorII
namespace Go.Proofs.YtgdafolidifdoaaDoor.Tp
open Go.ChangeShapes Go.WideShapes Go.ChangeAt Go.RowKit

theorem sx_num {n : Int} (h : I64 n) : Sx ⟨1, ⟨#[]⟩, ⟨#[]⟩, 0, n, []⟩ :=
  ⟨⟨(by decide : (-9223372036854775808 : Int) ≤ 1), (by decide : (1 : Int) ≤ 9223372036854775807)⟩, (by decide : (⟨#[]⟩ : ByteArray).size ≤ 6), (by decide : (⟨#[]⟩ : ByteArray).size ≤ 6), ⟨(by decide : (-9223372036854775808 : Int) ≤ 0), (by decide : (0 : Int) ≤ 9223372036854775807)⟩, h, (by decide : ([] : List ByteArray).length ≤ 3), fun x hx => by cases hx⟩
theorem awake_text : ex ⟨9, ⟨#[120]⟩, ⟨#[]⟩, 1, -1, []⟩ = ⟨#[120, 32, 43, 32, 45, 49]⟩ := by
  have h : dig (-1) = ⟨#[45, 49]⟩ := by
    unfold dig
    have : Lib.itoa (-1) = [45, 49] := by decide +kernel
    rw [this]
  show (⟨#[120]⟩ : ByteArray) ++ ⟨#[32]⟩ ++ sgn 1 ++ ⟨#[32]⟩ ++ dig (-1) = _
  rw [h]; rfl
set_option maxRecDepth 100000 in
set_option maxHeartbeats 1000000 in
theorem awake_walk (w : World) : Calls Tryd.prog 6 #[] w fun e w' => e = .returned (.bool true) ∧ Kept w w' := by
  have sx : Sx ⟨9, ⟨#[120]⟩, ⟨#[]⟩, 1, -1, []⟩ := ⟨⟨by decide, by decide⟩, by decide, by decide, ⟨by decide, by decide⟩, ⟨by decide, by decide⟩, by decide, fun x hx => by cases hx⟩
  have h := expr_walk ⟨9, ⟨#[120]⟩, ⟨#[]⟩, 1, -1, []⟩ sx (ag_nil w)
  rw [awake_text] at h
  unfold ec at h
  dsimp only at h
  go_enter Tryd.func6, Tryd.ntmps6
  go_wp2_with (go_at_call 10; (with_reducible refine h.mono ?_); rintro e w1 ⟨rfl, hk1⟩)
  go_ret
  exact ⟨rfl, hk1⟩

set_option maxRecDepth 100000 in
set_option maxHeartbeats 8000000 in
theorem exprs_law {w : World} (hL : Lds w) (e : Ev) (he : Okv e) :
    Calls Tryd.prog 4 #[.agg (ev e)] w fun x w' => x = .returned (.bool true) ∧ Kept w w' := by
  have hE : Hid (∀ W, Calls Tryd.prog 9 #[.agg (ev e)] W fun x w' => ∃ p c, x = .returned (.agg #[.int .i64 e.k, .string (sho e.a), .string (sho e.b), .int .i64 e.op, .int .i64 e.n, .slice p (lw 2 e.m) c]) ∧ Ag w' p (lw 2 e.m) c (List.replicate (lw 2 e.m) (sho e.b)) ∧ Kept W w') := fun W => (made_walk e he W).mono fun _ _ ⟨p, c, h1, h2, h3⟩ => ⟨p, c, h1, (ay_own h2).ag, h3⟩
  have hX : Hid (∀ W p c, Ag W p (lw 2 e.m) c (List.replicate (lw 2 e.m) (sho e.b)) → Calls Tryd.prog 10 #[.agg #[.int .i64 e.k, .string (sho e.a), .string (sho e.b), .int .i64 e.op, .int .i64 e.n, .slice p (lw 2 e.m) c]] W fun x w' => x = .returned (.string (ex (mx e))) ∧ Kept W w') := fun W p c h => expr_walk (mx e) (mx_sx he) h
  have hR : Hid (∀ W p c, Lds W → Ag W p (lw 2 e.m) c (List.replicate (lw 2 e.m) (sho e.b)) → Calls Tryd.prog 11 #[.agg #[.int .i64 e.k, .string (sho e.a), .string (sho e.b), .int .i64 e.op, .int .i64 e.n, .slice p (lw 2 e.m) c]] W fun x w' => x = .returned (.string (ex (mx e))) ∧ Kept W w') := fun W p c hL h => rexpr_walk hL (mx e) (mx_sx he) h
  have hN : Hid (∀ W, Lds W → Calls Tryd.prog 11 #[.agg #[.int .i64 1, .string ⟨#[]⟩, .string ⟨#[]⟩, .int .i64 0, .int .i64 e.n, .slice none 0 0]] W fun x w' => x = .returned (.string (dig e.n)) ∧ Kept W w') := fun W hL => rexpr_walk hL ⟨1, ⟨#[]⟩, ⟨#[]⟩, 0, e.n, []⟩ (sx_num he.n) (ag_nil W)
  have hT : Hid (∀ W, Calls Tryd.prog 12 #[.int .i64 e.k] W fun x w' => x = .returned (.string (typ e.k)) ∧ w' = W) := fun W => type_walk e.k W
  have hU : Hid (∀ W, Calls Tryd.prog 13 #[.int .i64 e.k] W fun x w' => x = .returned (.string (typ e.k)) ∧ Kept W w') := fun W => rtype_walk e.k he.k W
  have hS : Hid (∀ W, Calls Tryd.prog 14 #[.int .i64 e.op] W fun x w' => x = .returned (.string (sgn e.op)) ∧ w' = W) := fun W => sign_walk e.op W
  have hV : Hid (∀ W, Calls Tryd.prog 15 #[.int .i64 e.op] W fun x w' => x = .returned (.string (sgn e.op)) ∧ Kept W w') := fun W => rsign_walk e.op he.op W
  have hD : Hid (∀ W, Calls Tryd.prog 16 #[.int .i64 e.n] W fun x w' => x = .returned (.string (dig e.n)) ∧ Kept W w') := fun W => digits_walk e.n he.n W
  clear he
  generalize ex (mx e) = tx at *
  generalize dig e.n = td at *
  obtain ⟨k, op, n, a, b, m⟩ := e
  unfold ev at *
  dsimp only at *
  have hQ : Hid (∀ W p1 c1 p2 c2, Ag W p1 (lw 2 m) c1 (List.replicate (lw 2 m) (sho b)) → Ag W p2 (lw 2 m) c2 (List.replicate (lw 2 m) (sho b)) → Calls Tryd.prog 17 #[.agg #[.int .i64 k, .string (sho a), .string (sho b), .int .i64 op, .int .i64 n, .slice p1 (lw 2 m) c1], .agg #[.int .i64 k, .string (sho a), .string (sho b), .int .i64 op, .int .i64 n, .slice p2 (lw 2 m) c2]] W fun x w' => x = .returned (.bool true) ∧ Kept W w') := fun W p1 c1 p2 c2 h1 h2 => same_expr k (sho a) (sho b) op n h1 h2
  generalize typ k = tt at *
  generalize sgn op = ts at *
  generalize lw 2 m = q at *
  generalize List.replicate q (sho b) = l at *
  generalize sho a = sa at *
  generalize sho b = sb at *
  have HL : Hid (Lds w) := hL
  clear hL
  go_enter Tryd.func4, Tryd.ntmps4
  go_wp2_with (go_at_call 9; (with_reducible refine (hE.out _).mono ?_); rintro x w1 ⟨p, c, rfl, hAg, hk1⟩)
  have hkx : Kept w1 (w1.alloc (.cells #[.int .i64 k, .string sa, .string sb, .int .i64 op, .int .i64 n, .slice p q c] 35)) := (Kept.refl w1).alloc _
  have HK : Hid (Kept w (w1.alloc (.cells #[.int .i64 k, .string sa, .string sb, .int .i64 op, .int .i64 n, .slice p q c] 35))) := (((Kept.refl w).alloc _).trans hk1).trans hkx
  have hE0 : (w1.alloc (.cells #[.int .i64 k, .string sa, .string sb, .int .i64 op, .int .i64 n, .slice p q c] 35)).heap[w.heap.size]? = some (.cells #[.int .i64 k, .int .i64 op, .int .i64 n, .string a, .string b, .int .i64 m] 32) := hkx.block (hk1.block (alloc_at w _))
  have HS : Hid (∀ W, Kept (w1.alloc (.cells #[.int .i64 k, .string sa, .string sb, .int .i64 op, .int .i64 n, .slice p q c] 35)) W → (W.cell? ⟨w.heap.size, 0, none⟩ = some (.int .i64 k) ∧ W.cell? ⟨w.heap.size, 1, none⟩ = some (.int .i64 op) ∧ W.cell? ⟨w.heap.size, 2, none⟩ = some (.int .i64 n) ∧ W.cell? ⟨w.heap.size, 3, none⟩ = some (.string a) ∧ W.cell? ⟨w.heap.size, 4, none⟩ = some (.string b) ∧ W.cell? ⟨w.heap.size, 5, none⟩ = some (.int .i64 m)) ∧ (W.cell? ⟨w1.heap.size, 0, none⟩ = some (.int .i64 k) ∧ W.cell? ⟨w1.heap.size, 1, none⟩ = some (.string sa) ∧ W.cell? ⟨w1.heap.size, 2, none⟩ = some (.string sb) ∧ W.cell? ⟨w1.heap.size, 3, none⟩ = some (.int .i64 op) ∧ W.cell? ⟨w1.heap.size, 4, none⟩ = some (.int .i64 n) ∧ W.cell? ⟨w1.heap.size, 5, none⟩ = some (.slice p q c))) := fun W h => by
    have y1 := h.block hE0
    have y2 := h.block (alloc_at w1 _)
    exact ⟨⟨by rw [cell_of_row _ _ 0 _ _ _ y1]; rfl, by rw [cell_of_row _ _ 1 _ _ _ y1]; rfl, by rw [cell_of_row _ _ 2 _ _ _ y1]; rfl, by rw [cell_of_row _ _ 3 _ _ _ y1]; rfl, by rw [cell_of_row _ _ 4 _ _ _ y1]; rfl, by rw [cell_of_row _ _ 5 _ _ _ y1]; rfl⟩, by rw [cell_of_row _ _ 0 _ _ _ y2]; rfl, by rw [cell_of_row _ _ 1 _ _ _ y2]; rfl, by rw [cell_of_row _ _ 2 _ _ _ y2]; rfl, by rw [cell_of_row _ _ 3 _ _ _ y2]; rfl, by rw [cell_of_row _ _ 4 _ _ _ y2]; rfl, by rw [cell_of_row _ _ 5 _ _ _ y2]; rfl⟩
  have HLW : Hid (∀ W, Kept (w1.alloc (.cells #[.int .i64 k, .string sa, .string sb, .int .i64 op, .int .i64 n, .slice p q c] 35)) W → Lds W) := fun W h => HL.out.kept (HK.out.trans h)
  have HAW : Hid (∀ W, Kept (w1.alloc (.cells #[.int .i64 k, .string sa, .string sb, .int .i64 op, .int .i64 n, .slice p q c] 35)) W → Ag W p q c l) := fun W h => hAg.kept (hkx.trans h)
  have gA : Hid (∀ W, Kept (w1.alloc (.cells #[.int .i64 k, .string sa, .string sb, .int .i64 op, .int .i64 n, .slice p q c] 35)) W → Calls Tryd.prog 6 #[] W fun e w' => e = .returned (.bool true) ∧ Kept (w1.alloc (.cells #[.int .i64 k, .string sa, .string sb, .int .i64 op, .int .i64 n, .slice p q c] 35)) w') := fun W h => (awake_walk W).mono fun _ _ ⟨a1, a2⟩ => ⟨a1, h.trans a2⟩
  have gX : Hid (∀ W, Kept (w1.alloc (.cells #[.int .i64 k, .string sa, .string sb, .int .i64 op, .int .i64 n, .slice p q c] 35)) W → Calls Tryd.prog 10 #[.agg #[.int .i64 k, .string sa, .string sb, .int .i64 op, .int .i64 n, .slice p q c]] W fun x w' => x = .returned (.string tx) ∧ Kept (w1.alloc (.cells #[.int .i64 k, .string sa, .string sb, .int .i64 op, .int .i64 n, .slice p q c] 35)) w') := fun W h => (hX.out W p c (HAW.out W h)).mono fun _ _ ⟨a1, a2⟩ => ⟨a1, h.trans a2⟩
  have gR : Hid (∀ W, Kept (w1.alloc (.cells #[.int .i64 k, .string sa, .string sb, .int .i64 op, .int .i64 n, .slice p q c] 35)) W → Calls Tryd.prog 11 #[.agg #[.int .i64 k, .string sa, .string sb, .int .i64 op, .int .i64 n, .slice p q c]] W fun x w' => x = .returned (.string tx) ∧ Kept (w1.alloc (.cells #[.int .i64 k, .string sa, .string sb, .int .i64 op, .int .i64 n, .slice p q c] 35)) w') := fun W h => (hR.out W p c (HLW.out W h) (HAW.out W h)).mono fun _ _ ⟨a1, a2⟩ => ⟨a1, h.trans a2⟩
  have gN : Hid (∀ W, Kept (w1.alloc (.cells #[.int .i64 k, .string sa, .string sb, .int .i64 op, .int .i64 n, .slice p q c] 35)) W → Calls Tryd.prog 11 #[.agg #[.int .i64 1, .string ⟨#[]⟩, .string ⟨#[]⟩, .int .i64 0, .int .i64 n, .slice none 0 0]] W fun x w' => x = .returned (.string td) ∧ Kept (w1.alloc (.cells #[.int .i64 k, .string sa, .string sb, .int .i64 op, .int .i64 n, .slice p q c] 35)) w') := fun W h => (hN.out W (HLW.out W h)).mono fun _ _ ⟨a1, a2⟩ => ⟨a1, h.trans a2⟩
  have gU : Hid (∀ W, Kept (w1.alloc (.cells #[.int .i64 k, .string sa, .string sb, .int .i64 op, .int .i64 n, .slice p q c] 35)) W → Calls Tryd.prog 13 #[.int .i64 k] W fun x w' => x = .returned (.string tt) ∧ Kept (w1.alloc (.cells #[.int .i64 k, .string sa, .string sb, .int .i64 op, .int .i64 n, .slice p q c] 35)) w') := fun W h => (hU.out W).mono fun _ _ ⟨a1, a2⟩ => ⟨a1, h.trans a2⟩
  have gV : Hid (∀ W, Kept (w1.alloc (.cells #[.int .i64 k, .string sa, .string sb, .int .i64 op, .int .i64 n, .slice p q c] 35)) W → Calls Tryd.prog 15 #[.int .i64 op] W fun x w' => x = .returned (.string ts) ∧ Kept (w1.alloc (.cells #[.int .i64 k, .string sa, .string sb, .int .i64 op, .int .i64 n, .slice p q c] 35)) w') := fun W h => (hV.out W).mono fun _ _ ⟨a1, a2⟩ => ⟨a1, h.trans a2⟩
  have gD : Hid (∀ W, Kept (w1.alloc (.cells #[.int .i64 k, .string sa, .string sb, .int .i64 op, .int .i64 n, .slice p q c] 35)) W → Calls Tryd.prog 16 #[.int .i64 n] W fun x w' => x = .returned (.string td) ∧ Kept (w1.alloc (.cells #[.int .i64 k, .string sa, .string sb, .int .i64 op, .int .i64 n, .slice p q c] 35)) w') := fun W h => (hD.out W).mono fun _ _ ⟨a1, a2⟩ => ⟨a1, h.trans a2⟩
  have gE : Hid (∀ W, Kept (w1.alloc (.cells #[.int .i64 k, .string sa, .string sb, .int .i64 op, .int .i64 n, .slice p q c] 35)) W → Calls Tryd.prog 9 #[.agg #[.int .i64 k, .int .i64 op, .int .i64 n, .string a, .string b, .int .i64 m]] W fun x w' => ∃ p' c', x = .returned (.agg #[.int .i64 k, .string sa, .string sb, .int .i64 op, .int .i64 n, .slice p' q c']) ∧ Ag w' p' q c' l ∧ Kept (w1.alloc (.cells #[.int .i64 k, .string sa, .string sb, .int .i64 op, .int .i64 n, .slice p q c] 35)) w') := fun W h => (hE.out W).mono fun _ _ ⟨p', c', a1, a2, a3⟩ => ⟨p', c', a1, a2, h.trans a3⟩
  have gQ : Hid (∀ W p' c', Ag W p' q c' l → Kept (w1.alloc (.cells #[.int .i64 k, .string sa, .string sb, .int .i64 op, .int .i64 n, .slice p q c] 35)) W → Calls Tryd.prog 17 #[.agg #[.int .i64 k, .string sa, .string sb, .int .i64 op, .int .i64 n, .slice p q c], .agg #[.int .i64 k, .string sa, .string sb, .int .i64 op, .int .i64 n, .slice p' q c']] W fun x w' => x = .returned (.bool true) ∧ Kept (w1.alloc (.cells #[.int .i64 k, .string sa, .string sb, .int .i64 op, .int .i64 n, .slice p q c] 35)) w') := fun W p' c' h1 h => (hQ.out W p c p' c' (HAW.out W h) h1).mono fun _ _ ⟨a1, a2⟩ => ⟨a1, h.trans a2⟩
  clear hAg hk1 hkx hE0 hE hX hR hN hU hV hD hQ HL HLW HAW
  go_wp2
  go_region_held3 (fun W => (W.cell? ⟨w.heap.size, 0, none⟩ = some (.int .i64 k) ∧ W.cell? ⟨w.heap.size, 1, none⟩ = some (.int .i64 op) ∧ W.cell? ⟨w.heap.size, 2, none⟩ = some (.int .i64 n) ∧ W.cell? ⟨w.heap.size, 3, none⟩ = some (.string a) ∧ W.cell? ⟨w.heap.size, 4, none⟩ = some (.string b) ∧ W.cell? ⟨w.heap.size, 5, none⟩ = some (.int .i64 m)) ∧ (W.cell? ⟨w1.heap.size, 0, none⟩ = some (.int .i64 k) ∧ W.cell? ⟨w1.heap.size, 1, none⟩ = some (.string sa) ∧ W.cell? ⟨w1.heap.size, 2, none⟩ = some (.string sb) ∧ W.cell? ⟨w1.heap.size, 3, none⟩ = some (.int .i64 op) ∧ W.cell? ⟨w1.heap.size, 4, none⟩ = some (.int .i64 n) ∧ W.cell? ⟨w1.heap.size, 5, none⟩ = some (.slice p q c))) (exact HS.out _ (by (repeat (first | assumption | exact Kept.refl _ | apply Kept.drew | apply Kept.alloc)))) (first
    | (go_at_call 6; (with_reducible refine (gA.out _ ?_).mono ?_); (repeat (first | assumption | exact Kept.refl _ | apply Kept.drew | apply Kept.alloc)); rintro e w' ⟨rfl, hk⟩)
    | (go_at_call 10; (with_reducible refine (gX.out _ ?_).mono ?_); (repeat (first | assumption | exact Kept.refl _ | apply Kept.drew | apply Kept.alloc)); rintro e w' ⟨rfl, hk⟩)
    | (go_at_call 11; (with_reducible refine (gR.out _ ?_).mono ?_); (repeat (first | assumption | exact Kept.refl _ | apply Kept.drew | apply Kept.alloc)); rintro e w' ⟨rfl, hk⟩)
    | (go_at_call 11; (with_reducible refine (gN.out _ ?_).mono ?_); (repeat (first | assumption | exact Kept.refl _ | apply Kept.drew | apply Kept.alloc)); rintro e w' ⟨rfl, hk⟩)
    | (go_at_call 12; (with_reducible refine (hT.out _).mono ?_); rintro e w' ⟨rfl, rfl⟩)
    | (go_at_call 13; (with_reducible refine (gU.out _ ?_).mono ?_); (repeat (first | assumption | exact Kept.refl _ | apply Kept.drew | apply Kept.alloc)); rintro e w' ⟨rfl, hk⟩)
    | (go_at_call 14; (with_reducible refine (hS.out _).mono ?_); rintro e w' ⟨rfl, rfl⟩)
    | (go_at_call 15; (with_reducible refine (gV.out _ ?_).mono ?_); (repeat (first | assumption | exact Kept.refl _ | apply Kept.drew | apply Kept.alloc)); rintro e w' ⟨rfl, hk⟩)
    | (go_at_call 16; (with_reducible refine (gD.out _ ?_).mono ?_); (repeat (first | assumption | exact Kept.refl _ | apply Kept.drew | apply Kept.alloc)); rintro e w' ⟨rfl, hk⟩)
    | (go_at_call 9; (with_reducible refine (gE.out _ ?_).mono ?_); (repeat (first | assumption | exact Kept.refl _ | apply Kept.drew | apply Kept.alloc)); rintro e w' ⟨p', c', rfl, hag, hk⟩)
    | (go_at_call 17; (with_reducible refine (gQ.out _ _ _ hag ?_).mono ?_); (repeat (first | assumption | exact Kept.refl _ | apply Kept.drew | apply Kept.alloc)); rintro e w' ⟨rfl, hk⟩))
  all_goals go_wp2
  all_goals go_ret
  all_goals exact ⟨rfl, HK.out.trans (by assumption)⟩
end Go.Proofs.YtgdafolidifdoaaDoor.Tp
