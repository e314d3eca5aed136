/- The law on words joined. Condition: a text is no longer than a text may be. -/
import Derived.Test.YtgjhonphnecdhaaMO
import Derived.Test.YtgjhonphnecdhaaMM
namespace Go.Proofs.Ytgjhonphnecdhaa.Lx
open Go.ChangeShapes Go.WideShapes Go.ChangeAt Go.RowKit

theorem jn_take {ws : List Tok} {i : Nat} {x : Tok} (hx : ws[i]? = some x) : jn (ws.take (i + 1)) = jn (ws.take i) ++ (x.t ++ tab) := by
  rw [List.take_add_one, hx]
  show jn (ws.take i ++ [x]) = _
  rw [jn_append, jn_one]
theorem jn_take_le (ws : List Tok) (i : Nat) : (jn (ws.take i)).size ≤ (jn ws).size := by
  have : jn ws = jn (ws.take i) ++ jn (ws.drop i) := by rw [← jn_append, List.take_append_drop]
  rw [this, size_append]; omega

set_option maxRecDepth 100000 in
set_option maxHeartbeats 1000000 in
theorem joins_bad (s : ByteArray) (hs : s.size ≤ maxLen) {a : Nat} (hw : words (s.extract 0 (min s.size 2000)) = .error a) (w : World) :
    Calls Try.prog 5 #[.string s] w fun e w' => e = .returned (.bool true) ∧ Kept w w' := by
  have hc := cut_few s
  have f1 := fun W => few_walk s hs W
  have f2 := fun W => awake_walk W
  generalize s.extract 0 (min s.size 2000) = t at *
  have f3 : ∀ W, Calls Try.prog 7 #[.string t] W fun e w' => e = .returned (.tuple #[.slice none 0 0, .agg #[.int .i64 180, .int .i64 (a : Nat)]]) ∧ Kept W w' := fun W => (lex_walk t (by omega) W).mono fun e w' h => ⟨by have := h.1; unfold Ls at this; rw [hw] at this; exact this, h.2⟩
  clear hc hs hw
  go_enter Try.func5, Try.ntmps5
  go_wp2_with (first
    | (go_at_call 8; (with_reducible refine (f1 _).mono ?_); rintro e w1 ⟨rfl, hw1⟩; rw [hw1]; clear hw1)
    | (go_at_call 7; (with_reducible refine (f3 _).mono ?_); clear f3; rintro e w3 ⟨rfl, k3⟩; have Z3 : Hid (F2 (w3.alloc (.cells #[.int .i64 180, .int .i64 (a : Nat)] 25)) w3.heap.size 180 (a : Nat) ∧ Kept w (w3.alloc (.cells #[.int .i64 180, .int .i64 (a : Nat)] 25))) := ⟨F2.made w3 180 (a : Nat), k3.alloc _⟩; clear k3; have fa := f2 (w3.alloc (.cells #[.int .i64 180, .int .i64 (a : Nat)] 25)))
    | (go_at_call 10; (with_reducible refine fa.mono ?_); clear fa; rintro e w5 ⟨rfl, k5⟩; obtain ⟨a0, a1⟩ := (Z3.out.1.kept k5).cs; have K5 : Hid (Kept w w5) := Z3.out.2.trans k5; clear k5; have fb := f2 w5)
    | (go_at_call 10; (with_reducible refine fb.mono ?_); clear fb; rintro e w6 ⟨rfl, k6⟩; have K6 : Hid (Kept w w6) := K5.out.trans k6; clear k6))
  go_ret
  exact ⟨rfl, K6.out⟩

set_option maxRecDepth 100000 in
set_option maxHeartbeats 4000000 in
theorem joins_good (s : ByteArray) (hs : s.size ≤ maxLen) {ws : List Tok} (hw : words (s.extract 0 (min s.size 2000)) = .ok ws) (w : World) :
    Calls Try.prog 5 #[.string s] w fun e w' => e = .returned (.bool true) ∧ Kept w w' := by
  have hc := cut_few s
  have f1 := fun W => few_walk s hs W
  have f2 := fun W => awake_walk W
  generalize s.extract 0 (min s.size 2000) = t at *
  obtain ⟨hj, hat, hlen, m, hm, hsm⟩ := words_join hw
  have hml := hsm.len
  obtain ⟨n, hn⟩ : ∃ n, n = ws.length := ⟨_, rfl⟩
  have f3 : ∀ W, Calls Try.prog 7 #[.string t] W fun e w' => (∃ p q, e = .returned (.tuple #[.slice p n q, .agg #[.int .i64 0, .int .i64 0]]) ∧ Tw w' p n q ws) ∧ Kept W w' := fun W => (lex_walk t (by omega) W).mono fun e w' h => ⟨by have := h.1; unfold Ls at this; rw [hw] at this; rw [hn]; exact this, h.2⟩
  have f4 : ∀ W, Calls Try.prog 7 #[.string (jn ws)] W fun e w' => (∃ p q, e = .returned (.tuple #[.slice p n q, .agg #[.int .i64 0, .int .i64 0]]) ∧ Tw w' p n q m) ∧ Kept W w' := fun W => (lex_walk (jn ws) (by omega) W).mono fun e w' h => ⟨by have := h.1; unfold Ls at this; rw [hm] at this; rw [hn, ← hml]; exact this, h.2⟩
  have HX : Hid (∀ i, i < n → ∃ x y, ws[i]? = some x ∧ m[i]? = some y ∧ (x.k = y.k ∧ x.n = y.n ∧ x.t = y.t) ∧ x.a + x.t.size ≤ t.size ∧ t.extract x.a (x.a + x.t.size) = x.t) := fun i hi => by
    have hx : ws[i]? = some ws[i] := List.getElem?_eq_getElem (by omega)
    obtain ⟨y, h1, h2⟩ := hsm.at hx
    have h3 := hat _ (List.mem_of_getElem? hx)
    exact ⟨_, y, hx, h1, h2, h3.1, h3.2⟩
  have HJ : Hid (∀ i, (jn (ws.take i)).size ≤ 4001) := fun i => Nat.le_trans (jn_take_le ws i) (by omega)
  have HN : Hid (n = ws.length ∧ n ≤ 2001) := ⟨hn, by omega⟩
  have hn2 : n ≤ 2001 := by omega
  clear hj hat hlen hm hsm hml hn hs hw
  go_enter Try.func5, Try.ntmps5
  go_wp2_with (first
    | (go_at_call 8; (with_reducible refine (f1 _).mono ?_); rintro e w1 ⟨rfl, hw1⟩; rw [hw1]; clear hw1)
    | (go_at_call 7; (with_reducible refine (f3 _).mono ?_); clear f3; rintro e w3 ⟨⟨p3, q3, rfl, T3⟩, k3⟩; have Z3 : Hid (F2 (w3.alloc (.cells #[.int .i64 0, .int .i64 0] 25)) w3.heap.size 0 0 ∧ Kept w (w3.alloc (.cells #[.int .i64 0, .int .i64 0] 25)) ∧ Tw (w3.alloc (.cells #[.int .i64 0, .int .i64 0] 25)) p3 n q3 ws) := ⟨F2.made w3 0 0, k3.alloc _, T3.kept ((Kept.refl _).alloc _)⟩; clear k3 T3)
    | (go_at_call 10; (with_reducible refine (f2 _).mono ?_); rintro e w5 ⟨rfl, k5⟩; obtain ⟨a0, a1⟩ := (Z3.out.1.kept k5).cs; have Z5 : Hid (Kept w w5 ∧ Tw w5 p3 n q3 ws) := ⟨Z3.out.2.1.trans k5, Z3.out.2.2.kept k5⟩; clear k5))
  have hq3 := Z5.out.2.small.2
  have hq3' := Z5.out.2.le
  clear a0 a1 f1 f2
  go_loopg [6, 7] n (fun g uv iv wx => ∃ i : Nat, i + g = n ∧ Hid (Kept w wx ∧ Tw wx p3 n q3 ws) ∧ uv = .string (jn (ws.take i)) ∧ iv = .int .i64 (i : Nat))
  case atStart => exact ⟨0, by omega, Z5.out, rfl, rfl⟩
  case round =>
    obtain ⟨i, hg, HI, rfl, rfl⟩ := hrel
    clear Z5
    cases gk with
    | zero =>
      have hin : i = n := by omega
      have hlt : ¬ (i : Int) < (n : Nat) := by omega
      rw [show ws.take i = ws from List.take_of_length_le (by have := HN.out.1; omega)]
      clear hg hin
      generalize jn ws = u at *
      go_wp2_with (go_at_call 7; (with_reducible refine (f4 _).mono ?_); clear f4; rintro e w7 ⟨⟨p7, q7, rfl, T7⟩, k7⟩; have ka := (Kept.refl w7).alloc (.cells #[.int .i64 0, .int .i64 0] 25); obtain ⟨a0, a1⟩ := (F2.made w7 0 0).cs; have hq7 := T7.small.2; have hq7' := T7.le; have Z7 : Hid (Kept w (w7.alloc (.cells #[.int .i64 0, .int .i64 0] 25)) ∧ Tw (w7.alloc (.cells #[.int .i64 0, .int .i64 0] 25)) p3 n q3 ws ∧ Tw (w7.alloc (.cells #[.int .i64 0, .int .i64 0] 25)) p7 n q7 m) := ⟨(HI.out.1.trans k7).trans ka, HI.out.2.kept (k7.trans ka), T7.kept ka⟩; clear T7 k7 ka)
      clear a0 a1 hlt HI HJ
      go_loopg [10] n (fun g iv wx => ∃ i : Nat, i + g = n ∧ Hid (Kept w wx ∧ Tw wx p3 n q3 ws ∧ Tw wx p7 n q7 m) ∧ iv = .int .i64 (i : Nat))
      case atStart => exact ⟨0, by omega, Z7.out, rfl⟩
      case round =>
        obtain ⟨j, hg, HI, rfl⟩ := hrel
        clear Z7
        cases gk with
        | zero =>
          have hlt : ¬ (j : Int) < (n : Nat) := by omega
          clear hg
          go_wp2
          go_ret
          exact ⟨rfl, HI.out.1⟩
        | succ g =>
          have hlt : (j : Int) < (n : Nat) := by omega
          have hltn : j < n := by omega
          have HG : Hid (j + g + 1 = n) := by show j + g + 1 = n; omega
          obtain ⟨x, y, hx, hy, ⟨e1, e2, e3⟩, h1, h2⟩ := HX.out j hltn
          obtain ⟨b, o, rfl, c0, c1, c2, c3⟩ := HI.out.2.1.at hx
          obtain ⟨b', o', rfl, d0, d1, d2, d3⟩ := HI.out.2.2.at hy
          obtain ⟨xk, xa, xn, xt⟩ := x
          obtain ⟨yk, ya, yn, yt⟩ := y
          simp only at c0 c1 c2 c3 d0 d1 d2 d3 e1 e2 e3 h1 h2
          subst e1 e2 e3
          obtain ⟨e, he⟩ : ∃ e, e = xa + xt.size := ⟨_, rfl⟩
          have he2 : (xa : Int) + (xt.size : Nat) = (e : Nat) := by omega
          have he3 : xa ≤ e := by omega
          rw [← he] at h1 h2
          have hxt : xt.size ≤ 2000 := by omega
          have i1 : (0 : Int) ≤ (xa : Int) := by omega
          have i2 : (xa : Int) ≤ (e : Int) := by omega
          have i3 : (e : Int) ≤ (t.size : Int) := by omega
          have i4 : IntKind.i64.wrap ((xa : Int) + (xt.size : Nat)) = (e : Nat) := by rw [IntKind.wrap_i64]; omega
          have i5 : IntKind.i64.wrap (e : Int) = (e : Nat) := by rw [IntKind.wrap_i64]; omega
          clear hg hx hy he
          have HSA : Hid (∀ W, Kept wr W → (W.cell? ⟨b, o + j * 4, none⟩ = some (.int .i64 (xk : Nat)) ∧ W.cell? ⟨b, o + j * 4 + 1, none⟩ = some (.int .i64 (xa : Nat)) ∧ W.cell? ⟨b, o + j * 4 + 2, none⟩ = some (.int .i64 (xn : Nat)) ∧ W.cell? ⟨b, o + j * 4 + 3, none⟩ = some (.string xt)) ∧ W.cell? ⟨b', o' + j * 4, none⟩ = some (.int .i64 (xk : Nat)) ∧ W.cell? ⟨b', o' + j * 4 + 1, none⟩ = some (.int .i64 (ya : Nat)) ∧ W.cell? ⟨b', o' + j * 4 + 2, none⟩ = some (.int .i64 (xn : Nat)) ∧ W.cell? ⟨b', o' + j * 4 + 3, none⟩ = some (.string xt)) := fun W k => ⟨⟨k.cell c0, k.cell c1, k.cell c2, k.cell c3⟩, k.cell d0, k.cell d1, k.cell d2, k.cell d3⟩
          have KR := Kept.refl wr
          go_wp2
          go_region_held3 (fun W => (W.cell? ⟨b, o + j * 4, none⟩ = some (.int .i64 (xk : Nat)) ∧ W.cell? ⟨b, o + j * 4 + 1, none⟩ = some (.int .i64 (xa : Nat)) ∧ W.cell? ⟨b, o + j * 4 + 2, none⟩ = some (.int .i64 (xn : Nat)) ∧ W.cell? ⟨b, o + j * 4 + 3, none⟩ = some (.string xt)) ∧ W.cell? ⟨b', o' + j * 4, none⟩ = some (.int .i64 (xk : Nat)) ∧ W.cell? ⟨b', o' + j * 4 + 1, none⟩ = some (.int .i64 (ya : Nat)) ∧ W.cell? ⟨b', o' + j * 4 + 2, none⟩ = some (.int .i64 (xn : Nat)) ∧ W.cell? ⟨b', o' + j * 4 + 3, none⟩ = some (.string xt)) (exact HSA.out _ (by (repeat (first | assumption | apply Kept.drew | apply Kept.alloc)))) (first | fail)
          all_goals clear c0 c1 c2 c3 d0 d1 d2 d3
          · have K8 : Kept wr (((wr.alloc (.cells #[.int .i64 (xk : Nat), .int .i64 (xa : Nat), .int .i64 (xn : Nat), .string xt] 33)).alloc (.cells #[.int .i64 (xk : Nat), .int .i64 (ya : Nat), .int .i64 (xn : Nat), .string xt] 33)).drew) := ((KR.alloc _).alloc _).drew
            have T8a : T4 (((wr.alloc (.cells #[.int .i64 (xk : Nat), .int .i64 (xa : Nat), .int .i64 (xn : Nat), .string xt] 33)).alloc (.cells #[.int .i64 (xk : Nat), .int .i64 (ya : Nat), .int .i64 (xn : Nat), .string xt] 33)).drew) wr.heap.size (xk : Nat) (xa : Nat) (xn : Nat) xt := (T4.made wr _ _ _ _).kept ((Kept.refl _).alloc _).drew
            have T8b : T4 (((wr.alloc (.cells #[.int .i64 (xk : Nat), .int .i64 (xa : Nat), .int .i64 (xn : Nat), .string xt] 33)).alloc (.cells #[.int .i64 (xk : Nat), .int .i64 (ya : Nat), .int .i64 (xn : Nat), .string xt] 33)).drew) (wr.heap.size + 1) (xk : Nat) (ya : Nat) (xn : Nat) xt := by rw [← size_alloc wr (.cells #[.int .i64 (xk : Nat), .int .i64 (xa : Nat), .int .i64 (xn : Nat), .string xt] 33)]; exact (T4.made _ _ _ _ _).kept (Kept.refl _).drew
            generalize hW8 : ((wr.alloc (.cells #[.int .i64 (xk : Nat), .int .i64 (xa : Nat), .int .i64 (xn : Nat), .string xt] 33)).alloc (.cells #[.int .i64 (xk : Nat), .int .i64 (ya : Nat), .int .i64 (xn : Nat), .string xt] 33)).drew = W8 at *
            have HSB : Hid (∀ W, Kept W8 W → (W.cell? ⟨wr.heap.size, 0, none⟩ = some (.int .i64 (xk : Nat)) ∧ W.cell? ⟨wr.heap.size, 1, none⟩ = some (.int .i64 (xa : Nat)) ∧ W.cell? ⟨wr.heap.size, 2, none⟩ = some (.int .i64 (xn : Nat)) ∧ W.cell? ⟨wr.heap.size, 3, none⟩ = some (.string xt)) ∧ W.cell? ⟨(wr.heap.size + 1), 0, none⟩ = some (.int .i64 (xk : Nat)) ∧ W.cell? ⟨(wr.heap.size + 1), 1, none⟩ = some (.int .i64 (ya : Nat)) ∧ W.cell? ⟨(wr.heap.size + 1), 2, none⟩ = some (.int .i64 (xn : Nat)) ∧ W.cell? ⟨(wr.heap.size + 1), 3, none⟩ = some (.string xt)) := fun W k => ⟨(T8a.kept k).cs, (T8b.kept k).cs⟩
            have Z8 : Hid (Kept w W8 ∧ Tw W8 (some ⟨b, o, none⟩) n q3 ws ∧ Tw W8 (some ⟨b', o', none⟩) n q7 m) := ⟨HI.out.1.trans K8, HI.out.2.1.kept K8, HI.out.2.2.kept K8⟩
            have KR8 := Kept.refl W8
            clear hW8 T8a T8b K8 KR HSA HI
            go_wp2
            go_region_held3 (fun W => (W.cell? ⟨wr.heap.size, 0, none⟩ = some (.int .i64 (xk : Nat)) ∧ W.cell? ⟨wr.heap.size, 1, none⟩ = some (.int .i64 (xa : Nat)) ∧ W.cell? ⟨wr.heap.size, 2, none⟩ = some (.int .i64 (xn : Nat)) ∧ W.cell? ⟨wr.heap.size, 3, none⟩ = some (.string xt)) ∧ W.cell? ⟨(wr.heap.size + 1), 0, none⟩ = some (.int .i64 (xk : Nat)) ∧ W.cell? ⟨(wr.heap.size + 1), 1, none⟩ = some (.int .i64 (ya : Nat)) ∧ W.cell? ⟨(wr.heap.size + 1), 2, none⟩ = some (.int .i64 (xn : Nat)) ∧ W.cell? ⟨(wr.heap.size + 1), 3, none⟩ = some (.string xt)) (exact HSB.out _ (by (repeat (first | assumption | apply Kept.drew | apply Kept.alloc)))) (first | fail)
            all_goals go_wp2
            all_goals go_roundg g
            case measure => omega
            case rel => exact ⟨j + 1, by have := HG.out; omega, ⟨Z8.out.1.drew, Z8.out.2.1.kept (Kept.refl _).drew, Z8.out.2.2.kept (Kept.refl _).drew⟩, by go_num⟩
          · have K8 : Kept wr (((wr.alloc (.cells #[.int .i64 (xk : Nat), .int .i64 (ya : Nat), .int .i64 (xn : Nat), .string xt] 33)).alloc (.cells #[.int .i64 (xk : Nat), .int .i64 (xa : Nat), .int .i64 (xn : Nat), .string xt] 33)).drew) := ((KR.alloc _).alloc _).drew
            have T8a : T4 (((wr.alloc (.cells #[.int .i64 (xk : Nat), .int .i64 (ya : Nat), .int .i64 (xn : Nat), .string xt] 33)).alloc (.cells #[.int .i64 (xk : Nat), .int .i64 (xa : Nat), .int .i64 (xn : Nat), .string xt] 33)).drew) wr.heap.size (xk : Nat) (ya : Nat) (xn : Nat) xt := (T4.made wr _ _ _ _).kept ((Kept.refl _).alloc _).drew
            have T8b : T4 (((wr.alloc (.cells #[.int .i64 (xk : Nat), .int .i64 (ya : Nat), .int .i64 (xn : Nat), .string xt] 33)).alloc (.cells #[.int .i64 (xk : Nat), .int .i64 (xa : Nat), .int .i64 (xn : Nat), .string xt] 33)).drew) (wr.heap.size + 1) (xk : Nat) (xa : Nat) (xn : Nat) xt := by rw [← size_alloc wr (.cells #[.int .i64 (xk : Nat), .int .i64 (ya : Nat), .int .i64 (xn : Nat), .string xt] 33)]; exact (T4.made _ _ _ _ _).kept (Kept.refl _).drew
            generalize hW8 : ((wr.alloc (.cells #[.int .i64 (xk : Nat), .int .i64 (ya : Nat), .int .i64 (xn : Nat), .string xt] 33)).alloc (.cells #[.int .i64 (xk : Nat), .int .i64 (xa : Nat), .int .i64 (xn : Nat), .string xt] 33)).drew = W8 at *
            have HSB : Hid (∀ W, Kept W8 W → (W.cell? ⟨(wr.heap.size + 1), 0, none⟩ = some (.int .i64 (xk : Nat)) ∧ W.cell? ⟨(wr.heap.size + 1), 1, none⟩ = some (.int .i64 (xa : Nat)) ∧ W.cell? ⟨(wr.heap.size + 1), 2, none⟩ = some (.int .i64 (xn : Nat)) ∧ W.cell? ⟨(wr.heap.size + 1), 3, none⟩ = some (.string xt)) ∧ W.cell? ⟨wr.heap.size, 0, none⟩ = some (.int .i64 (xk : Nat)) ∧ W.cell? ⟨wr.heap.size, 1, none⟩ = some (.int .i64 (ya : Nat)) ∧ W.cell? ⟨wr.heap.size, 2, none⟩ = some (.int .i64 (xn : Nat)) ∧ W.cell? ⟨wr.heap.size, 3, none⟩ = some (.string xt)) := fun W k => ⟨(T8b.kept k).cs, (T8a.kept k).cs⟩
            have Z8 : Hid (Kept w W8 ∧ Tw W8 (some ⟨b, o, none⟩) n q3 ws ∧ Tw W8 (some ⟨b', o', none⟩) n q7 m) := ⟨HI.out.1.trans K8, HI.out.2.1.kept K8, HI.out.2.2.kept K8⟩
            have KR8 := Kept.refl W8
            clear hW8 T8a T8b K8 KR HSA HI
            go_wp2
            go_region_held3 (fun W => (W.cell? ⟨(wr.heap.size + 1), 0, none⟩ = some (.int .i64 (xk : Nat)) ∧ W.cell? ⟨(wr.heap.size + 1), 1, none⟩ = some (.int .i64 (xa : Nat)) ∧ W.cell? ⟨(wr.heap.size + 1), 2, none⟩ = some (.int .i64 (xn : Nat)) ∧ W.cell? ⟨(wr.heap.size + 1), 3, none⟩ = some (.string xt)) ∧ W.cell? ⟨wr.heap.size, 0, none⟩ = some (.int .i64 (xk : Nat)) ∧ W.cell? ⟨wr.heap.size, 1, none⟩ = some (.int .i64 (ya : Nat)) ∧ W.cell? ⟨wr.heap.size, 2, none⟩ = some (.int .i64 (xn : Nat)) ∧ W.cell? ⟨wr.heap.size, 3, none⟩ = some (.string xt)) (exact HSB.out _ (by (repeat (first | assumption | apply Kept.drew | apply Kept.alloc)))) (first | fail)
            all_goals go_wp2
            all_goals go_roundg g
            case measure => omega
            case rel => exact ⟨j + 1, by have := HG.out; omega, ⟨Z8.out.1.drew, Z8.out.2.1.kept (Kept.refl _).drew, Z8.out.2.2.kept (Kept.refl _).drew⟩, by go_num⟩
    | succ g =>
      have hlt : (i : Int) < (n : Nat) := by omega
      have hltn : i < n := by omega
      have HG : Hid (i + g + 1 = n) := by show i + g + 1 = n; omega
      obtain ⟨x, y, hx, h1⟩ : ∃ x y : Tok, ws[i]? = some x ∧ x.a + x.t.size ≤ t.size := by
        obtain ⟨x, y, h1, _, _, h2, _⟩ := HX.out i hltn
        exact ⟨x, y, h1, h2⟩
      obtain ⟨b, o, rfl, c0, c1, c2, c3⟩ := HI.out.2.at hx
      have h4 := HJ.out i
      have HT : Hid (jn (ws.take (i + 1)) = jn (ws.take i) ++ (x.t ++ tab)) := jn_take hx
      obtain ⟨xk, xa, xn, xt⟩ := x
      simp only at c0 c1 c2 c3 h1 HT
      have b1 : ¬ 9223372036854775807 < xt.size + tab.size := by rw [tab_size]; omega
      have b2 : ¬ 9223372036854775807 < (jn (ws.take i)).size + (xt ++ tab).size := by rw [size_append, tab_size]; omega
      generalize jn (ws.take i) = u at *
      have et : tab = ⟨#[9]⟩ := rfl
      rw [et] at b1 b2 HT
      clear hg hx et
      go_wp2
      go_roundg g
      case measure => omega
      case rel => exact ⟨i + 1, by have := HG.out; omega, HI, by rw [HT.out], by go_num⟩
theorem joins_law (s : ByteArray) (hs : s.size ≤ maxLen) (w : World) :
    Calls Try.prog 5 #[.string s] w fun e w' => e = .returned (.bool true) ∧ Kept w w' := by
  cases h : words (s.extract 0 (min s.size 2000)) with
  | error a => exact joins_bad s hs h w
  | ok ws => exact joins_good s hs h w
end Go.Proofs.Ytgjhonphnecdhaa.Lx
