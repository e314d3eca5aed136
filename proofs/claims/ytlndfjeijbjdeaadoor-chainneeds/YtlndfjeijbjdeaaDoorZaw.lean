/- Joined: HC HD. What is proved of the functions beneath ChainNeeds. Conditions: those that each row names. -/
import Derived.Test.YtlndfjeijbjdeaaDoorZau
import Derived.Test.YtlndfjeijbjdeaaDoorZav
namespace Go.Proofs.YtlndfjeijbjdeaaDoor.Ch
open Go.ChangeShapes Go.WideShapes Go.ChangeAt Go.RowKit
open N (Kept Rd On bs numL)

theorem infoI : (Tryd.prog.info? 3).map (fun i => (i.zero, i.size, i.bytes)) = some (some (.int .i64 0), 1, 8) := by kernel_rfl

/-- While a text is written: w is the world at the call, b the builder, acc what is written. -/
structure Bl (w : World) (b : Nat) (acc : List UInt8) (W : World) : Prop where
  b : Lib.IsBuilderF 76 5 w.heap.size b (Lib.byteCells acc) W
  low : Kept w W
theorem Bl.start (w : World) : Bl w w.heap.size [] (w.alloc (.cells #[.pointer none, .slice none 0 0] 76)) :=
  ⟨.inl ⟨Nat.le_refl _, .slice none 0 0, heap_alloc_new w _, World.ownsRowF_nil _ _ _ _, by simp [Value.ownBlock]⟩, (Kept.refl w).alloc _⟩
theorem Bl.kept {w W W' : World} {b : Nat} {acc : List UInt8} (h : Bl w b acc W) (k : Kept W W') : Bl w b acc W' := by
  have hg : W.grownBy W' none := ⟨k.out.os, k.out.tape, k.out.output, k.out.size, fun i hi _ => k.out.block i hi⟩
  have key : ∀ p, Lib.BuilderAtF 76 5 w.heap.size b p (Lib.byteCells acc) W → Lib.BuilderAtF 76 5 w.heap.size b p (Lib.byteCells acc) W' := by
    rintro p ⟨h1, v, h2, h3, h4⟩
    exact ⟨h1, v, k.block h2, h3.kept hg (by cases v.ownBlock <;> simp), h4⟩
  exact ⟨h.b.elim (fun x => .inl (key _ x)) (fun x => .inr (key _ x)), h.low.trans k⟩
theorem Bl.write {w W : World} {b : Nat} {acc : List UInt8} (h : Bl w b acc W) (s : ByteArray) (hm : acc.length + s.size ≤ 140737488355328) :
    Calls Tryd.prog 31 #[.pointer (some ⟨b, 0, none⟩), .string s] W fun e w' => e = .returned (.tuple #[.int .i64 s.size, .nilIface]) ∧ Bl w b (acc ++ s.data.toList) w' ∧ Lib.OthersKept 5 (some b) W w' := by
  refine (Tryd.Builder_WriteString_k _ _ _ s W h.b (by rw [Lib.byteCells_length]; exact hm) h.low.size).mono ?_
  rintro e w' ⟨rfl, h1, h2, h3⟩
  exact ⟨rfl, ⟨by rw [Lib.byteCells_append]; exact Or.inr h1, ⟨h.low.out.trans h2⟩⟩, h3⟩
theorem Bl.string {w W : World} {b : Nat} {acc : List UInt8} (h : Bl w b acc W) :
    Calls Tryd.prog 32 #[.pointer (some ⟨b, 0, none⟩)] W fun e w' => e = .returned (.string ⟨acc.toArray⟩) ∧ Kept w w' := by
  refine (Tryd.Builder_String_any_k _ _ acc W h.b h.low.size).mono ?_
  rintro e w' ⟨rfl, _, h2, _⟩
  exact ⟨rfl, ⟨h.low.out.trans h2⟩⟩
theorem C2.others {W W' : World} {b g : Nat} {a0 a1 : Value} (h : C2 W g 78 a0 a1) (k : Lib.OthersKept 5 (some b) W W') (hb : g ≠ b) : C2 W' g 78 a0 a1 := by
  refine ⟨k g _ h.out (fun e => hb (Option.some.inj e)) (fun c fz e => ?_)⟩
  injection e with e1 e2
  cases e2

set_option maxRecDepth 100000 in
set_option maxHeartbeats 1000000 in
theorem whole_one {w : World} {p : Nat} {n : Int} (s : ByteArray) (h0 : 0 < s.size) (h1 : s.size ≤ 234)
    (HR : Hid (∀ W, Kept w W → Calls Tryd.prog 29 #[.pointer (some ⟨p, 0, none⟩), .int .i64 n] W fun e w' => e = .returned (.tuple #[.agg #[.int .i64 (-1), .string s], .int .i64 0]) ∧ Kept W w')) :
    Calls Tryd.prog 15 #[.pointer (some ⟨p, 0, none⟩), .int .i64 n, .int .i64 (s.size : Nat)] w fun e w' => (∃ v, e = .returned (.tuple #[v, .string s, .int .i64 0])) ∧ Kept w w' := by
  obtain ⟨i3, hi, hz0, hz1, hz2⟩ := info_parts infoI
  have fl := mayLen_yes s.size h0 (by omega)
  have B0 := Bl.start w
  have fR := HR.out _ B0.low
  have ff := fun W => fits_last (w := W) s s.size rfl h1
  have hp : 0 < (s.size : Int) := by omega
  have hq : ¬ 234 < (s.size : Int) := by omega
  have hz : ([] : List UInt8).length + s.size ≤ 140737488355328 := by simp; omega
  clear HR
  go_enter Tryd.func15, Tryd.ntmps15
  go_wp2_with (first
    | (go_at_call 12; (with_reducible refine (fl _).mono ?_); rintro e w1 ⟨rfl, hw1⟩; rw [hw1]; clear hw1))
  refine wp_loop_rounds 2 ?_
  rw [rounds_succ]
  go_wp2_with (first
    | (go_at_call 29; (with_reducible refine fR.mono ?_); rintro e w2 ⟨rfl, k2⟩; have B2 := B0.kept k2; have L2 := C2.alloc w2 78 (.int .i64 (-1)) (.string s); have ka : Kept w2 (w2.alloc (.cells #[.int .i64 (-1), .string s] 78)) := (Kept.refl w2).alloc _; have B3 := B2.kept ka; obtain ⟨l0, l1⟩ := L2.cs; have hne : w2.heap.size ≠ w.heap.size := (by have := k2.size; rw [size_alloc] at this; omega); clear fR)
    | (go_at_call 30; (with_reducible refine (ff _).mono ?_); rintro e w4 ⟨rfl, k4⟩; have B4 := B3.kept k4; have L4 := L2.kept k4; obtain ⟨m0, m1⟩ := L4.cs)
    | (at_builtin; refine wpList_append_own _ rfl _ _ 42 rfl w4.heap.size 3 i3 (.int .i64 0) 1 8 Tryd.underlying42 hi hz0 hz1 hz2 rfl (by decide) (.slice none 0 0) 0 [] rfl ?c0 _ 1 1 [.int .i64 n] rfl rfl ?c1 ?c2 ?c3 ?c4 ?c5 ?_))
  case c0 => exact World.ownsRow_nil _ _ _ _
  case c1 => exact N.one_cell _ _ _
  case c2 => exact N.one_one _ _
  case c3 => unfold maxLen; omega
  case c4 => omega
  case c5 => simp
  intro v' w5 hown hgrow _
  have k5 : Kept w4 w5 := N.below_own (wx := w4) (Kept.refl _) (World.ownsRow_nil w4 w4.heap.size 3 1) ((Kept.refl w4).alloc _) hgrow
  have B5 := B4.kept k5
  have L5 := L4.kept k5
  obtain ⟨n0, n1⟩ := L5.cs
  have g6 := B5.write s hz
  clear hgrow hown hi hz0 hz1 hz2
  go_wp2_with (first
    | (go_at_call 31; (with_reducible refine g6.mono ?_); rintro e w6 ⟨rfl, B6, o6⟩; have L6 := L5.others o6 hne; obtain ⟨q0, q1⟩ := L6.cs; have g7 := B6.string; clear g6))
  rw [rounds_succ]
  go_wp2_with (first
    | (go_at_call 32; (with_reducible refine g7.mono ?_); rintro e w7 ⟨rfl, k7⟩))
  go_ret3
  all_goals exact ⟨⟨v', rfl⟩, k7⟩

theorem get_one {w : World} {p : Nat} {n : Int} (s : ByteArray) (h0 : 0 < s.size) (h1 : s.size ≤ 234)
    (HR : Hid (∀ W, Kept w W → Calls Tryd.prog 29 #[.pointer (some ⟨p, 0, none⟩), .int .i64 n] W fun e w' => e = .returned (.tuple #[.agg #[.int .i64 (-1), .string s], .int .i64 0]) ∧ Kept W w')) :
    Calls Tryd.prog 8 #[.pointer (some ⟨p, 0, none⟩), .int .i64 n, .int .i64 (s.size : Nat)] w fun e w' => e = .returned (.tuple #[.string s, .int .i64 0]) ∧ Kept w w' := by
  have f := whole_one s h0 h1 HR
  clear HR
  go_enter Tryd.func8, Tryd.ntmps8
  go_wp2_with (go_at_call 15; (with_reducible refine f.mono ?_); rintro e w1 ⟨⟨v, rfl⟩, k1⟩)
  go_ret2
  exact ⟨rfl, k1⟩

set_option maxRecDepth 100000 in
set_option maxHeartbeats 1000000 in
theorem put_one {w : World} {p : Nat} (n : Nat) (s : ByteArray) (h0 : 0 < s.size) (h1 : s.size ≤ 234) (Q : World → World → Prop)
    (HA : Hid (∀ W, Kept w W → Calls Tryd.prog 13 #[.pointer (some ⟨p, 0, none⟩), .int .i64 4, .string (bs (numL 0) ++ s)] W fun e w' => e = .returned (.tuple #[.int .i64 (n : Nat), .int .i64 0]) ∧ Q W w')) :
    Calls Tryd.prog 7 #[.pointer (some ⟨p, 0, none⟩), .string s] w fun e w' => e = .returned (.tuple #[.int .i64 (n : Nat), .int .i64 0]) ∧ ∃ W, Kept w W ∧ Q W w' := by
  have fl := mayLen_yes s.size h0 (by omega)
  have fn : ∀ W, Calls Tryd.prog 5 #[.int .i64 (s.size : Nat)] W fun e w' => e = .returned (.int .i64 1) ∧ w' = W := fun W => by
    have := need_walk s.size (by omega) W
    rw [show need s.size = 1 by unfold need; omega] at this
    exact this
  have fN : Calls Tryd.prog 14 #[.int .u64 0] w fun e w' => e = .returned (.string (bs (numL 0))) ∧ Kept w w' := N.num_walk 0 (by decide) w
  have hz : (bs (numL 0)).size = 1 := by rw [N.numL_last (by decide)]; rfl
  have e1 : min (234 : Int) (s.size : Nat) = (s.size : Nat) := by omega
  have e2 : s.extract 0 s.size = s := by cases s; simp
  generalize bs (numL 0) = z at *
  go_enter Tryd.func7, Tryd.ntmps7
  go_wp2_with (first
    | (go_at_call 12; (with_reducible refine (fl _).mono ?_); rintro e w1 ⟨rfl, hw1⟩; rw [hw1]; clear hw1)
    | (go_at_call 5; (with_reducible refine (fn _).mono ?_); rintro e w1 ⟨rfl, hw1⟩; rw [hw1]; clear hw1))
  refine wp_loop_rounds 2 ?_
  rw [rounds_succ]
  go_wp2_with (first
    | (go_at_call 14; (with_reducible refine fN.mono ?_); rintro e w2 ⟨rfl, k2⟩; have g3 := HA.out _ k2; clear fN)
    | (go_at_call 13; (with_reducible refine g3.mono ?_); rintro e w3 ⟨rfl, q3⟩; have HQ : Hid (Q w2 w3) := q3; clear g3 q3))
  rw [rounds_succ]
  go_wp2
  go_ret2
  exact ⟨rfl, w2, k2, HQ.out⟩
open G (opened)

theorem lds_kept {w w' : World} (h : S.Lds w) (o : Kept w w') : S.Lds w' := h.kept ⟨o.out⟩

theorem put_abc {w W : World} {p b g : Nat} {d : D.Dk} (hL : S.Lds w) (h : G.GAt w.heap.size W p b g (opened d (1, -1))) (hd : d.secs.length = 9) (k : Kept w W) :
    Calls Tryd.prog 7 #[.pointer (some ⟨p, 0, none⟩), .string ⟨#[97, 98, 99]⟩] W fun e w' => e = .returned (.tuple #[.int .i64 2, .int .i64 0]) ∧ (∃ a q, G.GA w.heap.size w' p a q ∧ q.fresh 2 = some ⟨4, 2, 2, bs (numL 0 ++ [97, 98, 99])⟩) ∧ Kept w w' := by
  have HA : Hid (∀ W', Kept W W' → Calls Tryd.prog 13 #[.pointer (some ⟨p, 0, none⟩), .int .i64 4, .string (bs (numL 0) ++ ⟨#[97, 98, 99]⟩)] W' fun e w' => e = .returned (.tuple #[.int .i64 ((2 : Nat) : Int), .int .i64 0]) ∧ ((∃ a q, G.GA w.heap.size w' p a q ∧ q.fresh 2 = some ⟨4, 2, 2, bs (numL 0 ++ [97, 98, 99])⟩) ∧ G.On w.heap.size W' w')) := fun W' k' => by
    have hk := k.trans k'
    obtain ⟨a, e1, e2, ga⟩ := h.out
    have h' : G.GAt w.heap.size W' p b g (opened d (1, -1)) := ⟨a, e1, e2, ga.kept ⟨k'.out⟩⟩
    have hr : S.IsFirst (opened d (1, -1)).ut (opened d (1, -1)).m 2 ((2 : Nat) : Int) := .inl ⟨2, rfl, by omega, by show 2 < d.secs.length; omega, by show G.ahead 2 = false; rw [ahead_at]; rfl, fun j a b => by omega⟩
    have hs : (bs (numL 0) ++ ⟨#[97, 98, 99]⟩ : ByteArray) = bs (numL 0 ++ [97, 98, 99]) := by rw [← N.bs_append]; rfl
    have hz : (bs (numL 0 ++ [97, 98, 99])).size ≤ 237 := by rw [N.bs_size, N.numL_last (by decide)]; decide
    rw [hs]
    refine (G.add_ok h' hk.size (lds_kept hL hk) 2 hr (by show 2 < d.secs.length; omega) 4 _ (by show 1 < _; decide) (by decide) (by decide) hz).mono ?_
    rintro e w' ⟨rfl, ⟨a', _, _, g'⟩, o⟩
    refine ⟨rfl, ⟨a', _, g', ?_⟩, o⟩
    show G.putM (fun _ => none) 2 ⟨4, ((2 : Nat) : Int), 1 + 1, _⟩ 2 = _
    unfold G.putM
    rw [if_pos rfl]
    rfl
  refine (put_one 2 ⟨#[97, 98, 99]⟩ (by decide) (by decide) _ HA).mono ?_
  rintro e w' ⟨rfl, W', k', q', o'⟩
  exact ⟨rfl, q', ⟨((k.trans k').out).trans o'.below⟩⟩

theorem get_abc {w W : World} {p : Nat} {a : G.Ad} {q : G.Pq} {B : Nat} (h : G.GA B W p a q) (hq : q.fresh 2 = some ⟨4, 2, 2, bs (numL 0 ++ [97, 98, 99])⟩) (k : Kept w W) :
    Calls Tryd.prog 8 #[.pointer (some ⟨p, 0, none⟩), .int .i64 2, .int .i64 3] W fun e w' => e = .returned (.tuple #[.string ⟨#[97, 98, 99]⟩, .int .i64 0]) ∧ Kept w w' := by
  refine (get_one (w := W) (p := p) (n := 2) ⟨#[97, 98, 99]⟩ (by decide) (by decide) fun W' k' => ?_).mono ?_
  · refine (cread_walk (w := W') (p := p) (n := 2) (by decide) (by decide) 0 (by decide) [97, 98, 99] (by decide) 2 2 ?_).mono ?_
    · intro W2 kb fr k2 hk
      exact read_new (h.kept ⟨(k'.trans k2).out⟩) (n := 2) (by decide) 4 hk 2 2 _ hq
    · rintro e w' ⟨rfl, k3⟩
      exact ⟨rfl, k3⟩
  · rintro e w' ⟨rfl, k3⟩
    exact ⟨rfl, k.trans k3⟩

set_option maxRecDepth 100000 in
set_option maxHeartbeats 1000000 in
theorem awake_walk {w : World} (hL : S.Lds w) : Calls Tryd.prog 4 #[] w fun e w' => e = .returned (.bool true) ∧ Kept w w' := by
  have f1 : Calls Tryd.prog 6 #[.int .i64 9] w _ := begun_walk 9 (by decide) (by decide)
  have f2 : Hid (∀ W p b g d, G.GAt w.heap.size W p b g (opened d (1, -1)) → d.secs.length = 9 → Kept w W → Calls Tryd.prog 7 #[.pointer (some ⟨p, 0, none⟩), .string ⟨#[97, 98, 99]⟩] W fun e w' => e = .returned (.tuple #[.int .i64 2, .int .i64 0]) ∧ (∃ a q, G.GA w.heap.size w' p a q ∧ q.fresh 2 = some ⟨4, 2, 2, bs (numL 0 ++ [97, 98, 99])⟩) ∧ Kept w w') := fun W p b g d h hd k => put_abc hL h hd k
  have f3 : Hid (∀ W p, (∃ a q, G.GA w.heap.size W p a q ∧ q.fresh 2 = some ⟨4, 2, 2, bs (numL 0 ++ [97, 98, 99])⟩) → Kept w W → Calls Tryd.prog 8 #[.pointer (some ⟨p, 0, none⟩), .int .i64 2, .int .i64 3] W fun e w' => e = .returned (.tuple #[.string ⟨#[97, 98, 99]⟩, .int .i64 0]) ∧ Kept w w') := fun W p ⟨a, q, h, hq⟩ k => get_abc h hq k
  clear hL
  go_enter Tryd.func4, Tryd.ntmps4
  go_wp2_with (first
    | (go_at_call 6; (with_reducible refine f1.mono ?_); rintro e w1 ⟨p, b, g, d, rfl, G1, hd, _, k1⟩; have g2 := f2.out _ p b g d G1 hd k1; clear f1 G1 hd)
    | (go_at_call 7; (with_reducible refine g2.mono ?_); rintro e w2 ⟨rfl, x2, k2⟩; have g3 := f3.out _ p x2 k2; clear g2 x2)
    | (go_at_call 8; (with_reducible refine g3.mono ?_); rintro e w3 ⟨rfl, k3⟩; clear g3))
  go_ret
  exact ⟨by first | rfl | decide, k3⟩

set_option maxRecDepth 100000 in
set_option maxHeartbeats 1000000 in
theorem needs_law {w : World} (hL : S.Lds w) (n : Int) : Calls Tryd.prog 3 #[.int .i64 n] w fun e w' => e = .returned (.bool true) ∧ Kept w w' := by
  have f1 := awake_walk hL
  obtain ⟨k, hk, ek⟩ := low16 n
  have f2 := need_walk k (by omega)
  have f3 := need_none (-(k : Int)) (by omega)
  have e1 : (k : Int) ≤ (need k : Nat) * 234 := by unfold need; omega
  have e2 : ¬ k = 0 → ((need k : Nat) - 1 : Int) * 234 < k := by unfold need; omega
  have e3 : need k ≤ 281 := by unfold need; omega
  have e4 : ¬ k = 0 → 0 < need k := by unfold need; omega
  clear hL
  generalize need k = m at *
  by_cases h0 : k = 0
  · subst h0
    clear e1 e2 e3 e4 f2 f3 hk
    have f2 := need_none 0 (by omega)
    have ek' : bits .and .i64 n 65535 = 0 := ek
    clear ek
    go_enter Tryd.func3, Tryd.ntmps3
    go_wp2_with (first
      | (go_at_call 4; (with_reducible refine f1.mono ?_); rintro e w1 ⟨rfl, k1⟩; clear f1)
      | (go_at_call 5; (with_reducible refine (f2 _).mono ?_); rintro e w2 ⟨rfl, hw2⟩; rw [hw2]; clear hw2))
    go_ret
    exact ⟨rfl, k1⟩
  · have h1 := e2 h0
    have h2 := e4 h0
    have h3 : ¬ (k : Int) = 0 := by omega
    clear e2 e4
    go_enter Tryd.func3, Tryd.ntmps3
    go_wp2_with (first
      | (go_at_call 4; (with_reducible refine f1.mono ?_); rintro e w1 ⟨rfl, k1⟩; clear f1)
      | (go_at_call 5; (with_reducible refine (f2 _).mono ?_); rintro e w2 ⟨rfl, hw2⟩; rw [hw2]; clear hw2)
      | (go_at_call 5; (with_reducible refine (f3 _).mono ?_); rintro e w2 ⟨rfl, hw2⟩; rw [hw2]; clear hw2))
    go_ret
    exact ⟨rfl, k1⟩
end Go.Proofs.YtlndfjeijbjdeaaDoor.Ch