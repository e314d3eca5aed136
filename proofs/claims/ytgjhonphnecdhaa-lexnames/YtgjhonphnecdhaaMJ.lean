/- The walk of Lex. Conditions: a text has 32768 bytes at most; or it has more. -/
import Derived.Test.YtgjhonphnecdhaaMI
namespace Go.Proofs.Ytgjhonphnecdhaa.Lx
open Go.ChangeShapes Go.WideShapes Go.ChangeAt Go.RowKit

theorem results_tmp_cell {fn : Func} {p u : Tmp} {ty : TypeId} (h : fn.results = #[.tmp u, .cell p ty]) (tmps : Array Value) (P : Program) (w : World) :
    (results fn tmps).run P w =
      ((asAddr (tmps.getD p undef)).run P w).andThen fun a w₁ => ((loadVar ty a).run P w₁).andThen fun v w₂ => .ok (.tuple #[tmps.getD u undef, v]) w₂ := by
  simp only [results, h]
  simp [Sem.run_bind, Result.andThen]
theorem results_rev {P : Program} {fn : Func} {p u : Tmp} {ty : TypeId} (h : fn.results = #[.tmp u, .cell p ty]) (tmps : Array Value) (w : World) (g : Nat) (t : TypeId) (cs : Array Value) (fr : Nat × Nat) (d : TypeDesc)
    (hp : tmps.getD p undef = .pointer (some ⟨g, 0, none⟩)) (hg : w.heap[g]? = some (.cells cs t fr))
    (hu : P.underlying ty = some d) (hd : (match d with | .struct _ | .array _ _ => true | _ => false) = true) (hi : (P.info? ty).map (·.size) = some cs.size) :
    (results fn tmps).run P w = .ok (.tuple #[tmps.getD u undef, .agg cs]) w := by
  rw [results_tmp_cell h, hp]
  simp [asAddr, run_loadVar_row w g t ty cs fr d hg hu hd hi]
theorem below_own {w wx w1 : World} {v : Value} {n sz : Nat} {xs : List Value} {e : Nat} (hk : Kept w wx) (hown : wx.ownsRow w.heap.size e sz v n xs) {W : World} (hW : Kept wx W) (hg : W.grownBy w1 v.ownBlock) : Kept w w1 :=
  ⟨((hk.trans hW).out).grown hg (hk.trans hW).size (fun k h => (hown.lt k h).1)⟩
theorem own_kept {w w' : World} {B e sz n c : Nat} {p : Option Addr} {cs : List Value} (k : w.ownsRow B e sz (.slice p n c) n cs) (h : Kept w w') : w'.ownsRow B e sz (.slice p n c) n cs :=
  k.kept (h.grown none) (by cases p <;> simp [Value.ownBlock])

/-- A flaw in a block of its own. -/
structure F2 (w : World) (b : Nat) (c a : Int) : Prop where
  out : w.heap[b]? = some (.cells #[.int .i64 c, .int .i64 a] 25)
theorem F2.cs {w : World} {b : Nat} {c a : Int} (h : F2 w b c a) : w.cell? ⟨b, 0, none⟩ = some (.int .i64 c) ∧ w.cell? ⟨b, 1, none⟩ = some (.int .i64 a) :=
  ⟨by rw [cell_of_row w b 0 _ _ _ h.out]; rfl, by rw [cell_of_row w b 1 _ _ _ h.out]; rfl⟩
theorem F2.fz {w : World} {b : Nat} {c a : Int} (h : F2 w b c a) (j : Nat) : w.frozen? ⟨b, j, none⟩ = false := frozen_of_row w b j _ _ h.out
theorem F2.kept {w w' : World} {b : Nat} {c a : Int} (h : F2 w b c a) (q : Kept w w') : F2 w' b c a := ⟨q.block h.out⟩
theorem F2.made (w : World) (c a : Int) : F2 (w.alloc (.cells #[.int .i64 c, .int .i64 a] 25)) w.heap.size c a := ⟨alloc_at w _⟩
theorem F2.set0 {w : World} {b : Nat} {c a : Int} (h : F2 w b c a) (y : Int) : F2 (w.setCell ⟨b, 0, none⟩ (.int .i64 y)) b y a := ⟨by rw [heap_setCell_same w b 0 _ _ _ h.out]; rfl⟩
theorem F2.set1 {w : World} {b : Nat} {c a : Int} (h : F2 w b c a) (y : Int) : F2 (w.setCell ⟨b, 1, none⟩ (.int .i64 y)) b c y := ⟨by rw [heap_setCell_same w b 1 _ _ _ h.out]; rfl⟩
/-- A flaw stored whole. -/
def st2 (w : World) (b : Nat) (c a : Int) : World := (w.setCell ⟨b, 0, none⟩ (.int .i64 c)).setCell ⟨b, 1, none⟩ (.int .i64 a)
theorem F2.fill {w : World} {b : Nat} {x y : Int} (h : F2 w b x y) (c a : Int) : F2 (st2 w b c a) b c a := (h.set0 c).set1 a
theorem kept_st2 {v w : World} (h : Kept v w) {b : Nat} (hb : v.heap.size ≤ b) (c a : Int) : Kept v (st2 w b c a) := (h.setCell (p := ⟨b, 0, none⟩) hb _).setCell (p := ⟨b, 1, none⟩) hb _
theorem F2.ready {w : World} {b : Nat} {x y : Int} (h : F2 w b x y) (c : Int) :
    (w.cell? ⟨b, 0, none⟩ = some (.int .i64 x) ∧ w.frozen? ⟨b, 0, none⟩ = false) ∧
    ((w.setCell ⟨b, 0, none⟩ (.int .i64 c)).cell? ⟨b, 1, none⟩ = some (.int .i64 y) ∧ (w.setCell ⟨b, 0, none⟩ (.int .i64 c)).frozen? ⟨b, 1, none⟩ = false) :=
  ⟨⟨h.cs.1, h.fz 0⟩, ⟨(h.set0 c).cs.2, (h.set0 c).fz 1⟩⟩
/-- Words stay while a flaw of another block is stored. -/
theorem Tw.aside {w : World} {g b n c : Nat} {l : List Tok} (h : Tw w (some ⟨g, 0, none⟩) n c l) (hne : g ≠ b) (x y : Int) : Tw (st2 w b x y) (some ⟨g, 0, none⟩) n c l := by
  refine ⟨h.len, h.le, h.cap, h.out.imp id fun ⟨b', off, e, f⟩ => ⟨b', off, e, fun j u hu => ?_⟩⟩
  cases e
  have h1 : ∀ (W : World) (k : Nat) (v : Value), (W.setCell ⟨b, k, none⟩ v).cell? ⟨g, 0 + j, none⟩ = W.cell? ⟨g, 0 + j, none⟩ := fun W k v => by
    unfold World.cell?
    rw [heap_setCell_other W ⟨b, k, none⟩ g v hne]
  unfold st2
  rw [h1, h1]
  exact f j u hu

/-- What Lex says of a text. -/
def Ls (s : ByteArray) (e : Ending) (w' : World) : Prop :=
  match words s with
  | .error a => e = .returned (.tuple #[.slice none 0 0, .agg #[.int .i64 180, .int .i64 (a : Nat)]])
  | .ok ws => ∃ p c, e = .returned (.tuple #[.slice p ws.length c, .agg #[.int .i64 0, .int .i64 0]]) ∧ Tw w' p ws.length c ws
theorem ls_bad {s : ByteArray} {a : Nat} (h : words s = .error a) (w : World) : Ls s (.returned (.tuple #[.slice none 0 0, .agg #[.int .i64 180, .int .i64 (a : Nat)]])) w := by unfold Ls; rw [h]
theorem ls_good {s : ByteArray} {ws : List Tok} (h : words s = .ok ws) {w : World} {p : Option Addr} {n c : Nat} (hn : n = ws.length) (t : Tw w p n c ws) : Ls s (.returned (.tuple #[.slice p n c, .agg #[.int .i64 0, .int .i64 0]])) w := by
  unfold Ls; rw [h]; subst hn; exact ⟨p, c, rfl, t⟩
theorem own_ptr {w : World} {B e sz n c : Nat} {p : Option Addr} {cs : List Value} (h : w.ownsRow B e sz (.slice p n c) n cs) (hn : 0 < n) : ∃ g, p = some ⟨g, 0, none⟩ ∧ B ≤ g := by
  rcases h.2 with ⟨_, h2⟩ | ⟨g, cap, cur, h1, hB, _⟩
  · omega
  · injection h1 with h1 _ _
    exact ⟨g, h1, hB⟩
theorem wd_wv {s : ByteArray} {i : Nat} {x : Tok} (h : wd s i = some x) : wv s i = x := by unfold wv; rw [h]; rfl
theorem cells4 (w : World) (x : Tok) (t : TypeId) {g : Nat} (hg : w.heap.size = g) : ∀ (j : Nat) (u : Value), (tc1 x)[j]? = some u → (w.alloc (.cells #[.int .i64 (x.k : Nat), .int .i64 (x.a : Nat), .int .i64 (x.n : Nat), .string x.t] t)).cell? ((⟨g, 0, none⟩ : Addr).add j) = some u := by
  intro j u hu
  subst hg
  rw [Addr.add_lit, Nat.zero_add, cell_of_row _ w.heap.size j _ _ _ (alloc_at w _), ← Array.getElem?_toList]
  exact hu

set_option maxRecDepth 100000 in
set_option maxHeartbeats 2000000 in
theorem lex_walk (s : ByteArray) (hs : s.size ≤ 32768) (w : World) :
    Calls Try.prog 7 #[.string s] w fun e w' => Ls s e w' ∧ Kept w w' := by
  have hs2 : ¬ 32768 < (s.size : Int) := by omega
  have fB : Hid (∀ j W, j ≤ s.size → Calls Try.prog 16 #[.string s, .int .i64 (j : Nat)] W fun e w' => e = .returned (.int .i64 (gp false s j : Nat)) ∧ w' = W) := fun j W hj => between_walk s j hj (by omega) W
  have fW : Hid (∀ j W, j < s.size → Calls Try.prog 17 #[.string s, .int .i64 (j : Nat)] W fun e w' => e = .returned (.agg #[.int .i64 ((wv s j).k : Nat), .int .i64 (j : Nat), .int .i64 ((wv s j).n : Nat), .string (wv s j).t]) ∧ Kept W w') := fun j W hj => word_walk s j hj (by omega) W
  have f0 : ∀ W, Calls Try.prog 16 #[.string s, .int .i64 0] W fun e w' => e = .returned (.int .i64 (gp false s 0 : Nat)) ∧ w' = W := fun W => fB.out 0 W (Nat.zero_le _)
  have hgp0 := gp_le (b := false) (Nat.zero_le s.size)
  have HW : Hid (words s = lx s (gp false s 0)) := rfl
  have HS : Hid (s.size ≤ 32768) := hs
  generalize gp false s 0 = a0 at *
  have z0 := F2.made w 0 0
  have kA := (Kept.refl w).alloc (.cells #[.int .i64 0, .int .i64 0] 25)
  generalize hW0 : w.alloc (.cells #[.int .i64 0, .int .i64 0] 25) = W0 at *
  have hsz : W0.heap.size = w.heap.size + 1 := by rw [← hW0]; exact size_alloc _ _
  have HZ : Hid (F2 W0 w.heap.size 0 0 ∧ Kept w W0 ∧ W0.heap.size = w.heap.size + 1) := ⟨z0, kA, hsz⟩
  clear z0 kA hsz
  obtain ⟨i0, hi, hz0, hz1, hz2⟩ := info_parts info33
  go_enter Try.func7, Try.ntmps7
  go_wp2_with (go_at_call 16; (with_reducible refine (f0 _).mono ?_); rintro e w1 ⟨rfl, hw1⟩; rw [hw1]; clear hw1)
  clear f0
  go_loopg [4, 5] (s.size - a0) (fun g wv_ av wx => ∃ (a n c : Nat) (p : Option Addr) (ws : List Tok), a + g = s.size ∧ n ≤ a ∧ Hid (words s = pre ws (lx s a) ∧ wx.ownsRow W0.heap.size 33 4 (.slice p n c) n (tc ws) ∧ Kept W0 wx) ∧ wv_ = .slice p n c ∧ av = .int .i64 (a : Nat))
  case atStart => exact ⟨a0, 0, 0, none, [], by omega, Nat.zero_le _, ⟨by rw [HW.out, pre_nil], World.ownsRow_nil _ _ _ _, Kept.refl _⟩, rfl, rfl⟩
  case round =>
    obtain ⟨a, n, c, p, ws, hg, hn, HI, rfl, rfl⟩ := hrel
    have HG : Hid (a + gk = s.size) := hg
    by_cases ha : a < s.size
    · have hla : (a : Int) < (s.size : Nat) := by omega
      have fw := fun W => fW.out a W ha
      cases hx : wd s a with
      | none =>
        have hv : wv s a = ⟨0, a, 0, ⟨#[]⟩⟩ := by unfold wv; rw [hx]; rfl
        rw [hv] at fw
        have HE : Hid (words s = .error a) := by show _ = _; rw [HI.out.1, lx_bad ha hx]; rfl
        have HQ : Hid (∀ W, Kept wr W → F2 W w.heap.size 0 0) := fun W k => (HZ.out.1.kept HI.out.2.2).kept k
        have HK : Hid (∀ W, Kept wr W → Kept w W) := fun W k => (HZ.out.2.1.trans HI.out.2.2).trans k
        clear hg hn HI hv hx hi hz0 hz1 hz2
        go_wp2_with (go_at_call 17; (with_reducible refine (fw _).mono ?_); rintro e w3 ⟨rfl, k3⟩; have K3 : Hid (Kept wr w3) := k3; clear k3; have z4 := T4.made w3 0 (a : Nat) 0 ⟨#[]⟩; obtain ⟨t0, t1, t2, t3⟩ := z4.cs; have K4 : Hid (Kept wr (w3.alloc (.cells #[.int .i64 0, .int .i64 (a : Nat), .int .i64 0, .string ⟨#[]⟩] 33))) := K3.out.alloc _; have Q4 : Hid (F2 (w3.alloc (.cells #[.int .i64 0, .int .i64 (a : Nat), .int .i64 0, .string ⟨#[]⟩] 33)) w.heap.size 0 0) := HQ.out _ K4.out; obtain ⟨⟨r0, q0⟩, r1, q1⟩ := Q4.out.ready 180; clear z4)
        refine bodyPost_ret (v := .tuple #[.slice none 0 0, .agg #[.int .i64 180, .int .i64 (a : Nat)]]) ?_ rfl ⟨ls_bad HE.out _, ?_⟩
        · exact results_rev (p := 3) (u := 2) (ty := 25) rfl _ _ w.heap.size 25 _ (0, 0) _ rfl (Q4.out.fill 180 (a : Nat)).out Try.underlying25 rfl size25
        · exact kept_st2 (HK.out _ K4.out) (Nat.le_refl _) _ _
      | some x =>
        obtain ⟨xa, x1, x2, x3, x4, x5, x6⟩ := wd_facts ha hx
        rw [wd_wv hx] at fw
        have tk : ((x.k : Nat) == (0 : Int)) = false := by simp; omega
        obtain ⟨j, hj⟩ : ∃ j, j = a + x.t.size := ⟨_, rfl⟩
        have ej : (a : Int) + (x.t.size : Nat) = (j : Nat) := by omega
        have fb := fun W => fB.out j W (by omega)
        have hgj := gp_le (b := false) (show j ≤ s.size by omega)
        have hgg := gp_ge false s j
        have HX : Hid (words s = pre (ws ++ [x]) (lx s (gp false s j))) := by show _ = _; rw [HI.out.1, lx_word ha hx, pre_pre, hj]
        generalize gp false s j = jj at *
        have hxs : x.t.size ≤ 32768 := by omega
        have HJ : Hid (a + 1 ≤ jj ∧ jj ≤ s.size) := ⟨by omega, hgj⟩
        have hn3 : n ≤ 32768 := by omega
        have HN : Hid (n + 1 ≤ jj) := by show n + 1 ≤ jj; omega
        clear hx hj hgj hgg x1 x2 x3 x4 x5 x6
        obtain ⟨xk, xa', xn, xt⟩ := x
        simp only at xa
        subst xa
        simp only at fw tk ej fb HX hxs
        go_wp2_with (first
          | (go_at_call 17; (with_reducible refine (fw _).mono ?_); rintro e w3 ⟨rfl, k3⟩; have K3 : Hid (Kept wr w3) := k3; clear k3; have Z4 : Hid (T4 (w3.alloc (.cells #[.int .i64 (xk : Nat), .int .i64 (xa' : Nat), .int .i64 (xn : Nat), .string xt] 33)) w3.heap.size (xk : Nat) (xa' : Nat) (xn : Nat) xt) := T4.made w3 _ _ _ _; obtain ⟨t0, t1, t2, t3⟩ := Z4.out.cs; have K4 : Hid (Kept wr (w3.alloc (.cells #[.int .i64 (xk : Nat), .int .i64 (xa' : Nat), .int .i64 (xn : Nat), .string xt] 33))) := K3.out.alloc _)
          | (at_builtin; refine wpList_append_own _ rfl _ _ 22 rfl W0.heap.size 33 i0 _ 4 40 Try.underlying22 hi hz0 hz1 hz2 rfl (by decide) (.slice p n c) n (tc ws) rfl (own_kept HI.out.2.1 (K4.out.alloc _)) ⟨_, 0, none⟩ 1 1 (tc1 ⟨xk, xa', xn, xt⟩) rfl rfl (cells4 _ ⟨xk, xa', xn, xt⟩ _ (size_alloc _ _)) (tc_cell _) (by unfold maxLen; omega) (by omega) (Nat.le_trans HI.out.2.2.size (K4.out.alloc _).size) ?_; intro v' w5 o5 g5 _; obtain ⟨q5, c5, rfl⟩ := owns_shape o5; have HO5 : Hid (w5.ownsRow W0.heap.size 33 4 (.slice q5 (n + 1) c5) (n + 1) (tc (ws ++ [⟨xk, xa', xn, xt⟩])) ∧ Kept W0 w5) := ⟨by rw [tc_append, tc_one]; exact o5, below_own HI.out.2.2 HI.out.2.1 (K4.out.alloc _) g5⟩; have Z5 : T4 w5 w3.heap.size (xk : Nat) (xa' : Nat) (xn : Nat) xt := ⟨(g5.block _ (by rw [size_alloc, size_alloc]; omega) (fun e => by have := (HI.out.2.1.lt _ e.symm).2; have := K3.out.size; omega)).trans (((Kept.refl _).alloc _).block Z4.out.out)⟩; obtain ⟨u0, u1, u2, u3⟩ := Z5.cs; clear o5 g5 Z5)
          | (go_at_call 16; (with_reducible refine (fb _).mono ?_); rintro e w6 ⟨rfl, hw6⟩; rw [hw6]; clear hw6))
        go_roundg (s.size - jj)
        case measure => have := HJ.out; have := HG.out; omega
        case rel => exact ⟨jj, n + 1, c5, q5, ws ++ [⟨xk, xa', xn, xt⟩], by have := HJ.out; omega, HN.out, ⟨HX.out, HO5.out.1, HO5.out.2⟩, rfl, rfl⟩
    · have hla : ¬ (a : Int) < (s.size : Nat) := by omega
      have HE : Hid (words s = .ok (ws ++ [fin s])) := by show _ = _; rw [HI.out.1, lx_end (by omega)]; rfl
      have hn3 : n ≤ 32768 := by have := HS.out; omega
      have HL : Hid (ws.length = n) := by have := HI.out.2.1.1; rw [tc_length] at this; show ws.length = n; omega
      clear hg hn ha
      go_wp2_with (at_builtin; refine wpList_append_own _ rfl _ _ 22 rfl W0.heap.size 33 i0 _ 4 40 Try.underlying22 hi hz0 hz1 hz2 rfl (by decide) (.slice p n c) n (tc ws) rfl (own_kept HI.out.2.1 ((Kept.refl wr).alloc _)) ⟨_, 0, none⟩ 1 1 (tc1 (fin s)) rfl rfl (cells4 _ (fin s) _ rfl) (tc_cell _) (by unfold maxLen; omega) (by omega) (Nat.le_trans HI.out.2.2.size ((Kept.refl wr).alloc _).size) ?_; intro v' w5 o5 g5 _; obtain ⟨q5, c5, rfl⟩ := owns_shape o5; have HO5 : Hid (w5.ownsRow W0.heap.size 33 4 (.slice q5 (n + 1) c5) (n + 1) (tc (ws ++ [fin s])) ∧ Kept W0 w5) := ⟨by rw [tc_append, tc_one]; exact o5, below_own HI.out.2.2 HI.out.2.1 ((Kept.refl wr).alloc _) g5⟩; have Q5 : Hid (F2 w5 w.heap.size 0 0) := HZ.out.1.kept HO5.out.2; obtain ⟨⟨r0, q0⟩, r1, q1⟩ := Q5.out.ready 0; clear o5 g5)
      obtain ⟨g5, rfl, hg5⟩ := own_ptr HO5.out.1 (Nat.succ_pos n)
      refine bodyPost_ret (v := .tuple #[.slice (some ⟨g5, 0, none⟩) (n + 1) c5, .agg #[.int .i64 0, .int .i64 0]]) ?_ rfl ⟨ls_good HE.out (by rw [List.length_append, HL.out]; rfl) ((tw_of HO5.out.1).aside (by have := HZ.out.2.2; omega) 0 0), ?_⟩
      · exact results_rev (p := 3) (u := 2) (ty := 25) rfl _ _ w.heap.size 25 _ (0, 0) _ rfl (Q5.out.fill 0 0).out Try.underlying25 rfl size25
      · exact kept_st2 (HZ.out.2.1.trans HO5.out.2) (Nat.le_refl _) _ _

set_option maxRecDepth 100000 in
theorem lex_long (s : ByteArray) (h : 32768 < s.size) (hs : s.size ≤ 1000000) (w : World) :
    Calls Try.prog 7 #[.string s] w fun e w' => e = .returned (.tuple #[.slice none 0 0, .agg #[.int .i64 184, .int .i64 32768]]) ∧ Kept w w' := by
  have hs2 : 32768 < (s.size : Int) := by omega
  have kA := (Kept.refl w).alloc (.cells #[.int .i64 184, .int .i64 32768] 25)
  have z0 := F2.made w 184 32768
  go_enter Try.func7, Try.ntmps7
  go_wp2
  refine bodyPost_ret (v := .tuple #[.slice none 0 0, .agg #[.int .i64 184, .int .i64 32768]]) ?_ rfl ⟨rfl, ?_⟩
  · exact results_rev (p := 3) (u := 2) (ty := 25) rfl _ _ w.heap.size 25 _ (0, 0) _ rfl z0.out Try.underlying25 rfl size25
  · exact kA
end Go.Proofs.Ytgjhonphnecdhaa.Lx
