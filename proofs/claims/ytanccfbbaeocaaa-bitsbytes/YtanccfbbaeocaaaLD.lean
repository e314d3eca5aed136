/- The walk over the parts of two sets beside one another. Conditions: those that each row names. -/
import Derived.RangeFuncNested
import Derived.RangeFuncBound
import Derived.RangeFuncCalls
import Derived.RangeFuncLeaves
import Derived.Shelf.Abstract
import Derived.Shelf.RegionOpen
import Derived.WalkKit
import Derived.OwnWalkIn
import Derived.TacticsInMore
import Derived.LoopNIn
import Derived.LoopIn
import Derived.Maps.AppendAt
import Derived.Deep.CutRange
import Derived.Test.YtanccfbbaeocaaaLC
namespace Go.Proofs.Ytanccfbbaeocaaa.Bt
open Go.RowKit Go.Shelf
attribute [local go_sem] Oper.semAt_some

theorem room_wide_any (k : Nat) : Fence.wide.room k := fun d h => by cases h
theorem round_any {m m' : Nat} {P : Program} {l : Nat} {f : FuncId} {tmps : Array Value} {assign body : Code} {w : World} {R : Ending → World → Prop}
    (h : RoundIn Fence.wide m P l f tmps assign body w R) : RoundIn Fence.wide m' P l f tmps assign body w R := ⟨h.1, fun c cs _ => h.2 c cs (room_wide_any _)⟩
theorem yield_any {m : Nat} (m' : Nat) {P : Program} {l : Nat} {args : Array Value} {W : World} {R : Ending → World → Prop} (h : YieldAt Fence.wide m P l args W R) : YieldAt Fence.wide m' P l args W R := by
  obtain ⟨fn, tmps, assign, body, hy, hR⟩ := h
  exact ⟨fn, tmps, assign, body, hy, round_any hR⟩

/-- What a round keeps: all below a block, and all blocks that were there when the loop began, but one. -/
structure Kb (n₀ n1 b0 : Nat) (W W' : World) : Prop where
  below : Below n₀ W W'
  blk : ∀ b, b < n1 → b ≠ b0 → W'.heap[b]? = W.heap[b]?
theorem Kb.refl (n₀ n1 b0 : Nat) (W : World) : Kb n₀ n1 b0 W W := ⟨Below.refl _ _, fun _ _ _ => rfl⟩
theorem Kb.trans {n₀ n1 b0 : Nat} {A B C : World} (h : Kb n₀ n1 b0 A B) (k : Kb n₀ n1 b0 B C) : Kb n₀ n1 b0 A C := ⟨h.below.trans k.below, fun b h1 h2 => (k.blk b h1 h2).trans (h.blk b h1 h2)⟩
theorem Kb.ofKept {n₀ n1 b0 : Nat} {A B : World} (k : Kept A B) (h : n₀ ≤ A.heap.size) (h1 : n1 ≤ A.heap.size) : Kb n₀ n1 b0 A B := ⟨k.out.mono h, fun b hb _ => k.out.block b (by omega)⟩
theorem kb_b {n₀ n1 b0 : Nat} {w : World} (hn : n₀ ≤ w.heap.size) (h1 : n1 ≤ w.heap.size) (W : World) (l : Nat) (o o' : Obj) (hl : w.heap.size ≤ l) (h : W.heap[l]? = some o) (hc : o.isCells = false) (hw : o.isWalk = false) : Kb n₀ n1 b0 W (W.putObj l o') :=
  ⟨belowK_b hn W l o o' hl h hc hw, fun b hb _ => World.putObj_heap_other (by omega)⟩
theorem Kb.set {n₀ n1 b0 : Nat} (W : World) (h : n₀ ≤ b0) (u : Value) (i : Nat) : Kb n₀ n1 b0 W (W.setCell ⟨b0, i, none⟩ u) :=
  ⟨(Below.refl n₀ W).setCell (p := ⟨b0, i, none⟩) h u, fun b _ hb => heap_setCell_other _ ⟨b0, i, none⟩ b _ hb⟩

theorem bsd_fuel : ∀ (n m : Nat) (P Q : List Pt), Okp P → Okp Q → P.length + Q.length ≤ n → P.length + Q.length ≤ m → bsd n P Q = bsd m P Q
  | 0, 0, _, _, _, _, _, _ => rfl
  | 0, m + 1, P, Q, _, _, h, _ => by rw [bsd, bsd, if_pos (by omega)]
  | n + 1, 0, P, Q, _, _, _, h => by rw [bsd, bsd, if_pos (by omega)]
  | n + 1, m + 1, P, Q, hP, hQ, h1, h2 => by
    rw [bsd, bsd]
    split
    · rfl
    · rename_i h0
      have hl := tl_less h0 hP hQ
      rw [bsd_fuel n m _ _ (hP.tl _) (hQ.tl _) (by omega) (by omega)]
theorem bes_nil : bes [] [] = [] := rfl
theorem bes_step {P Q : List Pt} (hP : Okp P) (hQ : Okp Q) (h : P.length + Q.length ≠ 0) {k : Nat} (hk : min (pl P) (pl Q) = k) : bes P Q = (k, fw P k, fw Q k) :: bes (tl P k) (tl Q k) := by
  unfold bes
  obtain ⟨m, hm⟩ : ∃ m, P.length + Q.length = m + 1 := ⟨P.length + Q.length - 1, by omega⟩
  have hl := tl_less h hP hQ
  rw [hm, bsd, if_neg (by omega), hk]
  rw [hk] at hl
  rw [bsd_fuel m _ _ _ (hP.tl _) (hQ.tl _) (by omega) (Nat.le_refl _)]
theorem Okp.drop {P : List Pt} (h : Okp P) (i : Nat) : Okp (P.drop i) := ⟨h.up.sublist (List.drop_sublist i P), fun p hp => h.may p (List.mem_of_mem_drop hp)⟩
theorem drop_at {P : List Pt} {i : Nat} {x : Pt} (h : P[i]? = some x) : P.drop i = x :: P.drop (i + 1) := by
  obtain ⟨hi, rfl⟩ := List.getElem?_eq_some_iff.1 h
  rw [List.drop_eq_getElem_cons hi]

theorem cells3 {W : World} {b : Nat} {c0 c1 c2 : Value} {t : TypeId} (h : W.heap[b]? = some (.cells #[c0, c1, c2] t)) :
    W.cell? ⟨b, 0, none⟩ = some c0 ∧ W.cell? ⟨b, 1, none⟩ = some c1 ∧ W.cell? ⟨b, 2, none⟩ = some c2 :=
  ⟨by rw [cell_of_row _ b 0 _ _ _ h]; rfl, by rw [cell_of_row _ b 1 _ _ _ h]; rfl, by rw [cell_of_row _ b 2 _ _ _ h]; rfl⟩
theorem off_no {P : List Pt} {a k : Nat} (ha : a = pl P) (h : k < a) : fw P k = 0 ∧ tl P k = P := by
  cases P with
  | nil => exact ⟨rfl, rfl⟩
  | cons p r =>
    have : a = p.1 := ha
    rw [fw, tl, if_neg (by omega), if_neg (by omega)]
    exact ⟨rfl, rfl⟩
theorem off_yes {P r : List Pt} {x : Pt} {k : Nat} (e : P = x :: r) (h : x.1 = k) : fw P k = x.2 ∧ tl P k = r := by
  subst e
  rw [fw, tl, if_pos h, if_pos h]
  exact ⟨rfl, rfl⟩

/-- A part of two sets as it is handed over. -/
def enp (x : Pr) : Array Value := #[.agg #[.int .i64 (x.1 : Nat), .int .u64 (x.2.1 : Nat), .int .u64 (x.2.2 : Nat)]]

/-- What the iterator has in memory. -/
structure Bi (w₀ : World) (n1 b0 bs bt : Nat) (vs vt : Value) (W : World) : Prop where
  kept : Kept w₀ W
  big : n1 ≤ W.heap.size
  s : W.heap[bs]? = some (.cells #[vs] 25)
  t : W.heap[bt]? = some (.cells #[vt] 25)
  ls : bs < n1 ∧ bs ≠ b0
  lt : bt < n1 ∧ bt ≠ b0
theorem Bi.more {w₀ : World} {n1 b0 bs bt : Nat} {vs vt : Value} {W W' : World} (h : Bi w₀ n1 b0 bs bt vs vt W) (k : Kept W W') : Bi w₀ n1 b0 bs bt vs vt W' :=
  ⟨h.kept.trans k, Nat.le_trans h.big k.size, k.block h.s, k.block h.t, h.ls, h.lt⟩
theorem Bi.kb {w₀ : World} {n1 b0 bs bt : Nat} {vs vt : Value} {W W' : World} (h : Bi w₀ n1 b0 bs bt vs vt W) (k : Kb w₀.heap.size n1 b0 W W') : Bi w₀ n1 b0 bs bt vs vt W' :=
  ⟨⟨h.kept.out.trans k.below⟩, Nat.le_trans h.big k.below.size, (k.blk _ h.ls.1 h.ls.2).trans h.s, (k.blk _ h.lt.1 h.lt.2).trans h.t, h.ls, h.lt⟩

theorem Kept.new {a b : World} (h : Kept a b) {o : Obj} {i : Nat} (u : Value) : Kept a ((b.alloc o).setCell ⟨b.heap.size, i, none⟩ u) := (h.alloc o).setCell h.size u
theorem alloc_at (w : World) (o : Obj) : (w.alloc o).heap[w.heap.size]? = some o := Array.getElem?_push_size
theorem kept3 (w : World) (o1 o2 o : Obj) : Kept w (((w.alloc o1).alloc o2).alloc o).drew := ((((Kept.refl w).alloc _).alloc _).alloc _).drew
theorem at3a (w : World) (o1 o2 o : Obj) : (((w.alloc o1).alloc o2).alloc o).drew.heap[w.heap.size + 1 + 1]? = some o := by
  have h := (Kept.refl (((w.alloc o1).alloc o2).alloc o)).drew.block (alloc_at ((w.alloc o1).alloc o2) o)
  rwa [size_alloc, size_alloc] at h
theorem at3b (w : World) (o1 o2 o : Obj) : (((w.alloc o1).alloc o).alloc o2).drew.heap[w.heap.size + 1]? = some o := by
  have h := (((Kept.refl ((w.alloc o1).alloc o)).alloc o2).drew).block (alloc_at (w.alloc o1) o)
  rwa [size_alloc] at h
theorem at3c (w : World) (o1 o2 o : Obj) : (((w.alloc o).alloc o1).alloc o2).drew.heap[w.heap.size]? = some o :=
  ((((Kept.refl (w.alloc o)).alloc o1).alloc o2).drew).block (alloc_at w o)
/-- What may be handed over, and how whatever is named is made one of them. -/
def Sm (x : Pr) : Prop := x.1 < 16384 ∧ x.2.1 < 18446744073709551616 ∧ x.2.2 < 18446744073709551616
def md (x : Pr) : Pr := (x.1 % 16384, x.2.1 % 18446744073709551616, x.2.2 % 18446744073709551616)
theorem md_sm (x : Pr) : Sm (md x) := ⟨Nat.mod_lt _ (by decide), Nat.mod_lt _ (by decide), Nat.mod_lt _ (by decide)⟩
theorem md_eq {x : Pr} (h : Sm x) : md x = x := by
  unfold md
  rw [Nat.mod_eq_of_lt h.1, Nat.mod_eq_of_lt h.2.1, Nat.mod_eq_of_lt h.2.2]
theorem bes_small {P Q : List Pt} (hP : Okp P) (hQ : Okp Q) {x : Pr} (hx : x ∈ bes P Q) : Sm x := by
  obtain ⟨_, h2, h3, h4⟩ := (bsd_spec _ P Q hP hQ (Nat.le_refl _)).2.1 x hx
  exact ⟨h2, by rw [h3]; exact wd_lt hP _, by rw [h4]; exact wd_lt hQ _⟩
theorem bsd_len : ∀ (n : Nat) (P Q : List Pt), (bsd n P Q).length ≤ n
  | 0, _, _ => Nat.le_refl _
  | n + 1, P, Q => by
    rw [bsd]; split
    · exact Nat.zero_le _
    · rw [List.length_cons]; exact Nat.succ_le_succ (bsd_len n _ _)
theorem bes_len (P Q : List Pt) : (bes P Q).length ≤ P.length + Q.length := bsd_len _ _ _
end Go.Proofs.Ytanccfbbaeocaaa.Bt
