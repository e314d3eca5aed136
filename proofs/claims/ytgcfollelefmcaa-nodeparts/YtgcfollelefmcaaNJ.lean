/- The walks of the statement's inner and either: an inner node of some keys, or a leaf. Conditions: none but that the list is in memory. -/
import Derived.Test.YtgcfollelefmcaaNI
import Derived.Deep.AppendLies
namespace Go.Proofs.Ytgcfollelefmcaa
open Go.ChangeShapes Go.WideShapes Go.ChangeAt Go.RowKit

theorem leaf_walk {w : World} {p : Option Addr} {n c : Nat} {L : List Ki} (h : Gv w p n c L) :
    Calls Try.prog 16 #[.slice p n c] w fun e w' => ∃ kp m kc vp vc, e = .returned (.agg #[.bool true, .slice kp m kc, .slice vp m vc, .slice none 0 0]) ∧ Own w' w.heap.size 9 1 kp m kc (kcl (leafP (L.take 40)).1) ∧ Own w' w.heap.size 49 3 vp m vc (vcl (leafP (L.take 40)).2) ∧ m ≤ 40 ∧ Kept w w' := by
  rcases h.at with ⟨rfl, rfl, rfl⟩ | ⟨b, off, rfl, hc⟩
  · refine leaf_none.mono ?_
    rintro e w' ⟨rfl, hk⟩
    exact ⟨_, _, _, _, _, rfl, ⟨World.ownsRow_nil _ _ _ _⟩, ⟨World.ownsRow_nil _ _ _ _⟩, Nat.zero_le _, hk⟩
  · exact leaf_some h.len hc

def kpg (x : Ki) : Int := bits .and .i64 x.pg 16383
/-- The kids of an inner node. -/
def kidsP (L : List Ki) (m : Nat) : List Int := 5 :: (L.take m).map kpg

theorem kidsP_more {L : List Ki} {i : Nat} {x : Ki} (h : L[i]? = some x) : kidsP L (i + 1) = kidsP L i ++ [kpg x] := by
  unfold kidsP
  rw [List.take_add_one, h]
  simp
theorem icl_append (a b : List Int) : icl (a ++ b) = icl a ++ icl b := by simp [icl]
theorem ob (p : Option Addr) (n c : Nat) : (Value.slice p n c).ownBlock = blk p := by cases p <;> rfl
theorem one_cell1 (w : World) (u : Value) (t : TypeId) : ∀ (j : Nat) (v : Value), [u][j]? = some v → (w.alloc (.cells #[u] t)).drew.cell? ((⟨w.heap.size, 0, none⟩ : Addr).add j) = some v := one_cell w u t

set_option maxHeartbeats 4000000 in
set_option maxRecDepth 100000 in
theorem inner_walk {w : World} {p : Option Addr} {n c : Nat} {L : List Ki} (h : Gv w p n c L) :
    Calls Try.prog 26 #[.slice p n c] w fun e w' => ∃ kp m kc ip ic, e = .returned (.agg #[.bool false, .slice kp m kc, .slice none 0 0, .slice ip (m + 1) ic]) ∧ Own w' w.heap.size 9 1 kp m kc (kcl (leafP (L.take 40)).1) ∧ Own w' w.heap.size 3 1 ip (m + 1) ic (icl (kidsP L m)) ∧ m ≤ 40 ∧ m ≤ n ∧ Kept w w' := by
  have HL : Hid (∀ W, Kept w W → Calls Try.prog 16 #[.slice p n c] W fun e w' => ∃ kp m kc vp vc, e = .returned (.agg #[.bool true, .slice kp m kc, .slice vp m vc, .slice none 0 0]) ∧ Own w' W.heap.size 9 1 kp m kc (kcl (leafP (L.take 40)).1) ∧ Own w' W.heap.size 49 3 vp m vc (vcl (leafP (L.take 40)).2) ∧ m ≤ 40 ∧ Kept W w') := fun W hW => leaf_walk ⟨hW.rw h.out⟩
  have HH : Hid (Gv w p n c L) := h
  have hlm : (leafP (L.take 40)).1.length ≤ n := by
    have a := leafP_length (L.take 40)
    have b := List.length_take_le' 40 L
    rw [← h.len]; omega
  have HLM : Hid ((leafP (L.take 40)).1.length ≤ n) := hlm
  obtain ⟨i0, hi, hz0, hz1, hz2⟩ := info_parts info3
  have K0 : Kept w (w.alloc (.cells #[.bool false, .slice none 0 0, .slice none 0 0, .slice none 0 0] 27)) := (Kept.refl w).alloc _
  have R0 := C4.alloc w 27 (.bool false) (.slice none 0 0) (.slice none 0 0) (.slice none 0 0)
  have S0 := size_alloc w (.cells #[.bool false, .slice none 0 0, .slice none 0 0, .slice none 0 0] 27)
  clear h hlm
  go_enter Try.func26, Try.ntmps26
  go_wp2_with (first
    | (go_at_call 16
       (with_reducible refine (HL.out _ K0).mono ?_)
       rintro e v1 ⟨kp, m, kc, vp, vc, rfl, O1, O2, hm, k1⟩
       have K1 := K0.trans k1
       have R1 := R0.kept k1
       have S1 := k1.size
       rw [S0] at S1
       have hmn : m ≤ n := (by have a := O1.rw.len; rw [kcl_length, Nat.mul_one] at a; rw [← a]; exact HLM.out)
       clear K0 R0 S0 k1 HL))
  have X1 : C4 (((v1.alloc (.cells #[.bool true, .slice kp m kc, .slice vp m vc, .slice none 0 0] 27)).alloc (.cells #[.int .i64 5] 3)).alloc (.cells #[.bool false, .slice kp m kc, .slice none 0 0, .slice (some ⟨v1.heap.size + 1, 0, none⟩) 1 1] 27)) v1.heap.size 27 (.bool true) (.slice kp m kc) (.slice vp m vc) (.slice none 0 0) := (C4.alloc v1 27 _ _ _ _).kept (((Kept.refl _).alloc _).alloc _)
  have Y1 : C4 (((v1.alloc (.cells #[.bool true, .slice kp m kc, .slice vp m vc, .slice none 0 0] 27)).alloc (.cells #[.int .i64 5] 3)).alloc (.cells #[.bool false, .slice kp m kc, .slice none 0 0, .slice (some ⟨v1.heap.size + 1, 0, none⟩) 1 1] 27)) (v1.heap.size + 1 + 1) 27 (.bool false) (.slice kp m kc) (.slice none 0 0) (.slice (some ⟨v1.heap.size + 1, 0, none⟩) 1 1) := by
    have a := C4.alloc ((v1.alloc (.cells #[.bool true, .slice kp m kc, .slice vp m vc, .slice none 0 0] 27)).alloc (.cells #[.int .i64 5] 3)) 27 (.bool false) (.slice kp m kc) (.slice none 0 0) (.slice (some ⟨v1.heap.size + 1, 0, none⟩) 1 1)
    rw [size_alloc, size_alloc] at a
    exact a
  have O5 : Own (((v1.alloc (.cells #[.bool true, .slice kp m kc, .slice vp m vc, .slice none 0 0] 27)).alloc (.cells #[.int .i64 5] 3)).alloc (.cells #[.bool false, .slice kp m kc, .slice none 0 0, .slice (some ⟨v1.heap.size + 1, 0, none⟩) 1 1] 27)) (v1.heap.size + 1) 3 1 (some ⟨v1.heap.size + 1, 0, none⟩) 1 1 (icl (kidsP L 0)) := by
    have a := heap_alloc_new (v1.alloc (.cells #[.bool true, .slice kp m kc, .slice vp m vc, .slice none 0 0] 27)) (.cells #[.int .i64 5] 3)
    rw [size_alloc] at a
    exact Own.kept ⟨by simp [icl, kidsP], .inr ⟨_, 1, #[.int .i64 5], rfl, Nat.le_refl _, a, Nat.le_refl _, by decide, rfl, rfl⟩⟩ ((Kept.refl _).alloc _)
  have K5 : Kept v1 (((v1.alloc (.cells #[.bool true, .slice kp m kc, .slice vp m vc, .slice none 0 0] 27)).alloc (.cells #[.int .i64 5] 3)).alloc (.cells #[.bool false, .slice kp m kc, .slice none 0 0, .slice (some ⟨v1.heap.size + 1, 0, none⟩) 1 1] 27)) := (((Kept.refl v1).alloc _).alloc _).alloc _
  go_loopg [5] m (fun g v wx => ∃ (i : Nat) (ip : Option Addr) (ic : Nat), v = .int .i64 (i : Nat) ∧ Hid (g = m - i) ∧ i ≤ m ∧ C4 wx v1.heap.size 27 (.bool true) (.slice kp m kc) (.slice vp m vc) (.slice none 0 0) ∧ C4 wx (v1.heap.size + 1 + 1) 27 (.bool false) (.slice kp m kc) (.slice none 0 0) (.slice ip (i + 1) ic) ∧ Own wx (v1.heap.size + 1) 3 1 ip (i + 1) ic (icl (kidsP L i)) ∧ Kept v1 wx)
  case atStart => exact ⟨0, _, _, rfl, rfl, Nat.zero_le _, X1, Y1, O5, K5⟩
  case round =>
    obtain ⟨i, ip, ic, rfl, hg, him, X, Y, O, K⟩ := hrel
    clear X1 Y1 O5 K5
    obtain ⟨c0, c1, c2, c3⟩ := X.cs
    obtain ⟨d0, d1, d2, d3⟩ := Y.cs
    by_cases h1 : i < m
    · have h1' : (i : Int) < (m : Int) := by omega
      have h2' : (i : Int) < (n : Int) := by omega
      have h2 : i < n := by omega
      obtain ⟨lb, off, rfl, hc⟩ := HH.out.at.resolve_left (fun q => by omega)
      obtain ⟨x, hx⟩ : ∃ x, L[i]? = some x := ⟨_, List.getElem?_eq_getElem (by rw [HH.out.len]; omega)⟩
      obtain ⟨_, _, a2, _⟩ := hc wr (K1.trans K) i x hx
      have HX : Hid (L[i]? = some x) := hx
      clear hx hc
      have hp : bits .and .i64 x.pg 16383 = kpg x := rfl
      generalize hpe : kpg x = q at hp
      have HPE : Hid (kpg x = q) := hpe
      have OW : Hid (Own (wr.alloc (.cells #[.int .i64 q] 3)).drew (v1.heap.size + 1) 3 1 ip (i + 1) ic (icl (kidsP L i))) := O.kept ((Kept.refl wr).alloc _).drew
      have YW := Y.kept ((Kept.refl wr).alloc (.cells #[.int .i64 q] 3)).drew
      have XW := X.kept ((Kept.refl wr).alloc (.cells #[.int .i64 q] 3)).drew
      have KW := K.trans ((Kept.refl wr).alloc (.cells #[.int .i64 q] 3)).drew
      have hnews := one_cell1 wr (.int .i64 q) 3
      have h1one : ∀ u ∈ [Value.int .i64 q], u.oneCell' = true := one_one .i64 q
      have hBE : v1.heap.size + 1 ≤ (wr.alloc (.cells #[.int .i64 q] 3)).drew.heap.size := by
        have := XW.lt; omega
      have hlb : lb < v1.heap.size := by have := World.block_lt_of_cell? wr _ a2; exact (by
        rcases HH.out.at with ⟨hq, _⟩ | ⟨b', off', hq, hc'⟩
        · cases hq
        · injection hq with hq
          injection hq with e1 e2
          subst e1
          exact Nat.lt_of_lt_of_le (World.block_lt_of_cell? w _ (hc' w (Kept.refl w) i x HX.out).1) K1.size)
      have a2' : ∀ o, (wr.alloc o).cell? ⟨lb, off + i * 4 + 2, none⟩ = some (.int .i64 x.pg) := fun o => ((Kept.refl wr).alloc o).cell a2
      have d3' : ∀ o, (wr.alloc o).cell? ⟨v1.heap.size + 1 + 1, 3, none⟩ = some (.slice ip (i + 1) ic) := fun o => ((Kept.refl wr).alloc o).cell d3
      have h63 : i + 1 + 1 ≤ maxLen := by unfold maxLen; omega
      have hbytes : (i + 1 + 1) * 8 ≤ 140737488355328 := by omega
      clear hpe
      go_wp2_with fail
      go_region_law (refine step_append_lies _ (by rfl) _ _ _ (by rfl) (v1.heap.size + 1) 3 i0 _ 1 8 Try.underlying25 hi hz0 hz1 hz2 (by rfl) (by decide) (.slice ip (i + 1) ic) (i + 1) (icl (kidsP L i)) (by rfl) OW.out.out ⟨wr.heap.size, 0, none⟩ 1 1 [.int .i64 q] (by rfl) (by rfl) hnews h1one (by omega) h63 hbytes hBE _ rfl ?_; intro g3 cap3 w3 ho3 hg3 _ _; rw [ob] at hg3; have X3 := XW.grown hg3 (XW.own_ne OW.out (by decide)); have Y3 := YW.grown hg3 (YW.own_ne OW.out (by decide)); have c33 := Y3.cs.2.2.2; have f33 := Y3.fz 3)
      all_goals
        have o3 : Own w3 (v1.heap.size + 1) 3 1 (some ⟨g3, 0, none⟩) (i + 1 + 1) cap3 (icl (kidsP L (i + 1))) := ⟨by rw [kidsP_more HX.out, HPE.out, icl_append]; exact ho3⟩
        have K3 := grown_from KW OW.out (Nat.le_succ _) hg3
        have Y4 := Y3.set3 (.slice (some ⟨g3, 0, none⟩) (i + 1 + 1) cap3)
        have X4 := X3.far ⟨v1.heap.size + 1 + 1, 3, none⟩ (.slice (some ⟨g3, 0, none⟩) (i + 1 + 1) cap3) (by show v1.heap.size ≠ v1.heap.size + 1 + 1; omega)
        have O4 := o3.farT ⟨v1.heap.size + 1 + 1, 3, none⟩ (.slice (some ⟨g3, 0, none⟩) (i + 1 + 1) cap3) (Y3.own_ne o3 (by decide))
        have K4 := K3.set (a := ⟨v1.heap.size + 1 + 1, 3, none⟩) (by show v1.heap.size ≤ v1.heap.size + 1 + 1; omega) (.slice (some ⟨g3, 0, none⟩) (i + 1 + 1) cap3)
        generalize hWF : w3.setCell ⟨v1.heap.size + 1 + 1, 3, none⟩ (.slice (some ⟨g3, 0, none⟩) (i + 1 + 1) cap3) = WF at Y4 X4 O4 K4 ⊢
        clear hWF o3 K3 X3 Y3 c33 f33 hg3 ho3 OW YW XW KW hnews
        go_wp2
        go_roundg (m - (i + 1))
        case measure => rw [hg.out]; omega
        case rel => exact ⟨i + 1, _, cap3, by go_num, rfl, by omega, X4, Y4, O4, K4⟩
    · obtain rfl : i = m := by omega
      have h1' : ¬ ((i : Int) < (i : Int)) := by omega
      have R := R1.kept K
      obtain ⟨⟨g0, f0⟩, ⟨g1, f1⟩, ⟨g2, f2⟩, ⟨g3, f3⟩, hfin⟩ := ready4 R.out (.bool false) (.slice kp i kc) (.slice none 0 0) (.slice ip (i + 1) ic)
      go_wp2
      have q1 : Own ((((wr.setCell ⟨w.heap.size, 0, none⟩ (.bool false)).setCell ⟨w.heap.size, 1, none⟩ (.slice kp i kc)).setCell ⟨w.heap.size, 2, none⟩ (.slice none 0 0)).setCell ⟨w.heap.size, 3, none⟩ (.slice ip (i + 1) ic)) (w.heap.size + 1) 9 1 kp i kc (kcl (leafP (L.take 40)).1) := ((O1.mono (by rw [size_alloc]; exact Nat.le_refl _)).kept K).st4 (Nat.lt_succ_self _) _ _ _ _
      have q2 : Own ((((wr.setCell ⟨w.heap.size, 0, none⟩ (.bool false)).setCell ⟨w.heap.size, 1, none⟩ (.slice kp i kc)).setCell ⟨w.heap.size, 2, none⟩ (.slice none 0 0)).setCell ⟨w.heap.size, 3, none⟩ (.slice ip (i + 1) ic)) (v1.heap.size + 1) 3 1 ip (i + 1) ic (icl (kidsP L i)) := O.st4 (by omega) _ _ _ _
      have q3 : Kept w ((((wr.setCell ⟨w.heap.size, 0, none⟩ (.bool false)).setCell ⟨w.heap.size, 1, none⟩ (.slice kp i kc)).setCell ⟨w.heap.size, 2, none⟩ (.slice none 0 0)).setCell ⟨w.heap.size, 3, none⟩ (.slice ip (i + 1) ic)) := (K1.trans K).st4 (Nat.le_refl _) _ _ _ _
      generalize hW : ((((wr.setCell ⟨w.heap.size, 0, none⟩ (.bool false)).setCell ⟨w.heap.size, 1, none⟩ (.slice kp i kc)).setCell ⟨w.heap.size, 2, none⟩ (.slice none 0 0)).setCell ⟨w.heap.size, 3, none⟩ (.slice ip (i + 1) ic)) = WF at hfin q1 q2 q3 ⊢
      refine bodyPost_ret (v := .agg #[.bool false, .slice kp i kc, .slice none 0 0, .slice ip (i + 1) ic]) ?_ rfl ⟨_, _, _, _, _, rfl, q1.mono (Nat.le_succ _), q2.mono (by omega), hm, hmn, q3⟩
      exact results_cell_row (p := 2) rfl _ _ w.heap.size 27 #[.bool false, .slice kp i kc, .slice none 0 0, .slice ip (i + 1) ic] (0, 0) _ rfl hfin Try.underlying27 rfl size27
end Go.Proofs.Ytgcfollelefmcaa
