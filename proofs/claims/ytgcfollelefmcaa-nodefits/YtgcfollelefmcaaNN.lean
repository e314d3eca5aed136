/- The walks of the statement's awake, either and ref. Conditions: none but that the list, or the node, is in memory. -/
import Derived.Test.YtgcfollelefmcaaNM
namespace Go.Proofs.Ytgcfollelefmcaa
open Go.ChangeShapes Go.WideShapes Go.ChangeAt Go.RowKit

def awakeN : Nd := ⟨true, [⟨#[97]⟩], [⟨⟨#[49]⟩, -1, 0⟩], []⟩
theorem awake_good : Good awakeN := ⟨(by decide), (by intro k hk; simp [awakeN] at hk; subst hk; decide), fun _ => ⟨rfl, rfl⟩, (fun h => by cases h), (by intro v hv; simp [awakeN] at hv; subst hv; exact .inl ⟨rfl, rfl, by decide⟩), (by intro i hi; simp [awakeN] at hi)⟩
theorem awake_put : bs awakeN.put = ⟨#[1, 1, 97, 0, 1, 49]⟩ := by
  have e1 : (⟨#[97]⟩ : ByteArray).size = 1 := rfl
  have e2 : (⟨#[49]⟩ : ByteArray).size = 1 := rfl
  have : awakeN.put = [1, 1, 97, 0, 1, 49] := by
    show numL 1 ++ [] ++ ([] ++ (keyN ⟨#[97]⟩ ++ valN ⟨⟨#[49]⟩, -1, 0⟩)) = _
    unfold keyN valN
    rw [if_pos (by decide), e1, e2, numL_last (by decide), numL_last (by decide)]
    rfl
  rw [this]
  rfl

set_option maxRecDepth 100000 in
theorem awake_walk (w : World) : Calls Try.prog 11 #[] w fun e w' => e = .returned (.bool true) ∧ Kept w w' := by
  have K0 : Kept w ((w.alloc (.cells #[.string ⟨#[97]⟩] 9)).alloc (.cells #[.string ⟨#[49]⟩, .int .i64 (-1), .int .i64 0] 49)) := ((Kept.refl w).alloc _).alloc _
  have a0 := ((Kept.refl _).alloc (.cells #[.string ⟨#[49]⟩, .int .i64 (-1), .int .i64 0] 49)).block (heap_alloc_new w (.cells #[.string ⟨#[97]⟩] 9))
  have b0 := heap_alloc_new (w.alloc (.cells #[.string ⟨#[97]⟩] 9)) (.cells #[.string ⟨#[49]⟩, .int .i64 (-1), .int .i64 0] 49)
  rw [size_alloc] at b0
  have V : NV ((w.alloc (.cells #[.string ⟨#[97]⟩] 9)).alloc (.cells #[.string ⟨#[49]⟩, .int .i64 (-1), .int .i64 0] 49)) true (some ⟨w.heap.size, 0, none⟩) 1 1 (some ⟨w.heap.size + 1, 0, none⟩) 1 1 none 0 0 awakeN := by
    refine ⟨rfl, ⟨rfl, Nat.le_refl _, by decide, .inr ⟨_, _, rfl, fun j u hj => ?_⟩⟩, ⟨rfl, Nat.le_refl _, by decide, .inr ⟨_, _, rfl, fun j u hj => ?_⟩⟩, ⟨rfl, Nat.le_refl _, by decide, .inl ⟨rfl, rfl⟩⟩⟩
    · rw [cell_of_row _ _ _ _ _ _ a0, Nat.zero_add]
      simpa [kcl, awakeN] using hj
    · rw [cell_of_row _ _ _ _ _ _ b0, Nat.zero_add]
      simpa [vcl, awakeN, Vl.cells] using hj
  have HP := put_walk V awake_good
  rw [awake_put] at HP
  clear a0 b0 V
  go_enter Try.func11, Try.ntmps11
  go_wp2_with (first
    | (go_at_call 9
       (with_reducible refine HP.mono ?_)
       rintro e v1 ⟨rfl, k1⟩))
  go_ret
  exact ⟨rfl, K0.trans k1⟩

/-- A leaf, or an inner node. -/
def eitherP (L : List Ki) (l : Bool) : Nd := if l = true then ⟨true, (leafP (L.take 40)).1, (leafP (L.take 40)).2, []⟩ else ⟨false, (leafP (L.take 40)).1, [], kidsP L (leafP (L.take 40)).1.length⟩

theorem kpg_ok (x : Ki) : ∃ q : Nat, kpg x = (q : Int) ∧ q ≤ 16383 := by
  obtain ⟨p, hp, ep⟩ := lowbits 14 16383 (by decide) (by decide) x.pg
  exact ⟨p, ep, by omega⟩
theorem leafP_few (L : List Ki) : (leafP (L.take 40)).1.length ≤ 40 ∧ (leafP (L.take 40)).1.length ≤ L.length := by
  have a := leafP_length (L.take 40)
  rw [List.length_take] at a
  omega
theorem eitherP_good (L : List Ki) (l : Bool) : Good (eitherP L l) := by
  have f := leafP_few L
  have y := leafP_leafy (L.take 40)
  unfold eitherP
  cases l with
  | true => exact ⟨by show (leafP (L.take 40)).1.length ≤ 100; omega, y.small, fun _ => ⟨y.len, rfl⟩, (fun h => by cases h), y.ok, (by intro i hi; cases hi)⟩
  | false =>
    refine ⟨by show (leafP (L.take 40)).1.length ≤ 100; omega, y.small, (fun h => by cases h), fun _ => ⟨?_, rfl⟩, (by intro v hv; cases hv), ?_⟩
    · show (kidsP L (leafP (L.take 40)).1.length).length = (leafP (L.take 40)).1.length + 1
      unfold kidsP
      simp
      omega
    · intro i hi
      change i ∈ kidsP L (leafP (L.take 40)).1.length at hi
      unfold kidsP at hi
      rcases List.mem_cons.1 hi with rfl | hi
      · exact ⟨5, rfl, by decide⟩
      · obtain ⟨x, _, rfl⟩ := List.mem_map.1 hi
        exact kpg_ok x

set_option maxHeartbeats 1000000 in
set_option maxRecDepth 100000 in
theorem either_true {w : World} {p : Option Addr} {n c : Nat} {L : List Ki} (h : Gv w p n c L) :
    Calls Try.prog 8 #[.slice p n c, .bool true] w fun e w' => ∃ kp m kc vp vc, e = .returned (.agg #[.bool true, .slice kp m kc, .slice vp m vc, .slice none 0 0]) ∧ NV w' true kp m kc vp m vc none 0 0 (eitherP L true) ∧ Kept w w' := by
  have HL : Hid (∀ W, Kept w W → Calls Try.prog 16 #[.slice p n c] W fun e w' => ∃ kp m kc vp vc, e = .returned (.agg #[.bool true, .slice kp m kc, .slice vp m vc, .slice none 0 0]) ∧ Own w' W.heap.size 9 1 kp m kc (kcl (leafP (L.take 40)).1) ∧ Own w' W.heap.size 49 3 vp m vc (vcl (leafP (L.take 40)).2) ∧ m ≤ 40 ∧ Kept W w') := fun W hW => leaf_walk ⟨hW.rw h.out⟩
  have K0 : Kept w (w.alloc (.cells #[.bool false, .slice none 0 0, .slice none 0 0, .slice none 0 0] 27)) := (Kept.refl w).alloc _
  have R0 := C4.alloc w 27 (.bool false) (.slice none 0 0) (.slice none 0 0) (.slice none 0 0)
  have S0 := size_alloc w (.cells #[.bool false, .slice none 0 0, .slice none 0 0, .slice none 0 0] 27)
  clear h
  go_enter Try.func8, Try.ntmps8
  go_wp2_with (first
    | (go_at_call 16
       (with_reducible refine (HL.out _ K0).mono ?_)
       rintro e v1 ⟨kp, m, kc, vp, vc, rfl, O1, O2, hm, k1⟩
       have K1 := K0.trans k1
       have R1 := R0.kept k1
       rw [S0] at O1 O2
       obtain ⟨⟨g0, f0⟩, ⟨g1, f1⟩, ⟨g2, f2⟩, ⟨g3, f3⟩, hfin⟩ := ready4 R1.out (.bool true) (.slice kp m kc) (.slice vp m vc) (.slice none 0 0)))
  have q1 := (O1.st4 (Nat.lt_succ_self _) (.bool true) (.slice kp m kc) (.slice vp m vc) (.slice none 0 0))
  have q2 := (O2.st4 (Nat.lt_succ_self _) (.bool true) (.slice kp m kc) (.slice vp m vc) (.slice none 0 0))
  have q3 := K1.st4 (Nat.le_refl _) (.bool true) (.slice kp m kc) (.slice vp m vc) (.slice none 0 0)
  generalize hW : ((((v1.setCell ⟨w.heap.size, 0, none⟩ (.bool true)).setCell ⟨w.heap.size, 1, none⟩ (.slice kp m kc)).setCell ⟨w.heap.size, 2, none⟩ (.slice vp m vc)).setCell ⟨w.heap.size, 3, none⟩ (.slice none 0 0)) = WF at hfin q1 q2 q3 ⊢
  refine bodyPost_ret (v := .agg #[.bool true, .slice kp m kc, .slice vp m vc, .slice none 0 0]) ?_ rfl ⟨_, _, _, _, _, rfl, ⟨rfl, q1.rw, q2.rw, ⟨rfl, Nat.le_refl _, Nat.zero_le _, .inl ⟨rfl, rfl⟩⟩⟩, q3⟩
  exact results_cell_row (p := 4) rfl _ _ w.heap.size 27 #[.bool true, .slice kp m kc, .slice vp m vc, .slice none 0 0] (0, 0) _ rfl hfin Try.underlying27 rfl size27

set_option maxHeartbeats 1000000 in
set_option maxRecDepth 100000 in
theorem either_false {w : World} {p : Option Addr} {n c : Nat} {L : List Ki} (h : Gv w p n c L) :
    Calls Try.prog 8 #[.slice p n c, .bool false] w fun e w' => ∃ kp m kc ip ic, e = .returned (.agg #[.bool false, .slice kp m kc, .slice none 0 0, .slice ip (m + 1) ic]) ∧ NV w' false kp m kc none 0 0 ip (m + 1) ic (eitherP L false) ∧ Kept w w' := by
  have HL : Hid (∀ W, Kept w W → Calls Try.prog 26 #[.slice p n c] W fun e w' => ∃ kp m kc ip ic, e = .returned (.agg #[.bool false, .slice kp m kc, .slice none 0 0, .slice ip (m + 1) ic]) ∧ Own w' W.heap.size 9 1 kp m kc (kcl (leafP (L.take 40)).1) ∧ Own w' W.heap.size 3 1 ip (m + 1) ic (icl (kidsP L m)) ∧ m ≤ 40 ∧ m ≤ n ∧ Kept W w') := fun W hW => inner_walk ⟨hW.rw h.out⟩
  have K0 : Kept w (w.alloc (.cells #[.bool false, .slice none 0 0, .slice none 0 0, .slice none 0 0] 27)) := (Kept.refl w).alloc _
  have R0 := C4.alloc w 27 (.bool false) (.slice none 0 0) (.slice none 0 0) (.slice none 0 0)
  have S0 := size_alloc w (.cells #[.bool false, .slice none 0 0, .slice none 0 0, .slice none 0 0] 27)
  clear h
  go_enter Try.func8, Try.ntmps8
  go_wp2_with (first
    | (go_at_call 26
       (with_reducible refine (HL.out _ K0).mono ?_)
       rintro e v1 ⟨kp, m, kc, ip, ic, rfl, O1, O2, hm, hmn, k1⟩
       have K1 := K0.trans k1
       have R1 := R0.kept k1
       rw [S0] at O1 O2
       obtain ⟨⟨g0, f0⟩, ⟨g1, f1⟩, ⟨g2, f2⟩, ⟨g3, f3⟩, hfin⟩ := ready4 R1.out (.bool false) (.slice kp m kc) (.slice none 0 0) (.slice ip (m + 1) ic)))
  have hlm : (leafP (L.take 40)).1.length = m := by have a := O1.rw.len; rwa [kcl_length, Nat.mul_one] at a
  have q1 := (O1.st4 (Nat.lt_succ_self _) (.bool false) (.slice kp m kc) (.slice none 0 0) (.slice ip (m + 1) ic))
  have q2 := (O2.st4 (Nat.lt_succ_self _) (.bool false) (.slice kp m kc) (.slice none 0 0) (.slice ip (m + 1) ic))
  have q3 := K1.st4 (Nat.le_refl _) (.bool false) (.slice kp m kc) (.slice none 0 0) (.slice ip (m + 1) ic)
  generalize hW : ((((v1.setCell ⟨w.heap.size, 0, none⟩ (.bool false)).setCell ⟨w.heap.size, 1, none⟩ (.slice kp m kc)).setCell ⟨w.heap.size, 2, none⟩ (.slice none 0 0)).setCell ⟨w.heap.size, 3, none⟩ (.slice ip (m + 1) ic)) = WF at hfin q1 q2 q3 ⊢
  refine bodyPost_ret (v := .agg #[.bool false, .slice kp m kc, .slice none 0 0, .slice ip (m + 1) ic]) ?_ rfl ⟨_, _, _, _, _, rfl, ⟨rfl, q1.rw, ⟨rfl, Nat.le_refl _, Nat.zero_le _, .inl ⟨rfl, rfl⟩⟩, ?_⟩, q3⟩
  · exact results_cell_row (p := 4) rfl _ _ w.heap.size 27 #[.bool false, .slice kp m kc, .slice none 0 0, .slice ip (m + 1) ic] (0, 0) _ rfl hfin Try.underlying27 rfl size27
  · show Rw WF 1 ip (m + 1) ic (icl (kidsP L (leafP (L.take 40)).1.length))
    rw [hlm]
    exact q2.rw

theorem either_walk {w : World} {p : Option Addr} {n c : Nat} {L : List Ki} (h : Gv w p n c L) (l : Bool) :
    Calls Try.prog 8 #[.slice p n c, .bool l] w fun e w' => ∃ kp nk kc vp nv vc ip ni ic, e = .returned (.agg #[.bool l, .slice kp nk kc, .slice vp nv vc, .slice ip ni ic]) ∧ NV w' l kp nk kc vp nv vc ip ni ic (eitherP L l) ∧ Kept w w' := by
  cases l with
  | true =>
    refine (either_true h).mono ?_
    rintro e w' ⟨kp, m, kc, vp, vc, rfl, h1, h2⟩
    exact ⟨_, _, _, _, _, _, _, _, _, rfl, h1, h2⟩
  | false =>
    refine (either_false h).mono ?_
    rintro e w' ⟨kp, m, kc, vp, vc, rfl, h1, h2⟩
    exact ⟨_, _, _, _, _, _, _, _, _, rfl, h1, h2⟩
end Go.Proofs.Ytgcfollelefmcaa
