/- Lists of pages as the law on acts keeps them: in memory, without one, whether one is there. Conditions: no more than 100 of them. -/
import Derived.Test.YthlhnjjofefgcaaGreatDoorGWalkN
import Derived.Deep.AppendLies
import Derived.Lib.SliceRun
import Derived.Laws.AppendOwn
namespace Go.Proofs.YthlhnjjofefgcaaGreatDoor.G
open Go.ChangeShapes Go.WideShapes Go.ChangeAt Go.RowKit

/-- A page, as the law tells it. -/
structure Pge where
  n : Nat
  kind : Int
  s : ByteArray

def Pge.cells (x : Pge) : List Value := [.int .i64 (x.n : Nat), .int .i64 x.kind, .string x.s]
def flat (l : List Pge) : List Value := l.flatMap Pge.cells
theorem flat_len (l : List Pge) : (flat l).length = l.length * 3 := by
  induction l with
  | nil => rfl
  | cons x r ih => simp only [flat, List.flatMap_cons, List.length_append, List.length_cons] at ih ⊢; rw [ih]; simp [Pge.cells]; omega
theorem flat_append (l k : List Pge) : flat (l ++ k) = flat l ++ flat k := by simp [flat]
theorem flat_get : ∀ (l : List Pge) (i j : Nat) (x : Pge), l[i]? = some x → j < 3 → (flat l)[i * 3 + j]? = x.cells[j]?
  | [], i, j, x, h, _ => by simp at h
  | y :: r, 0, j, x, h, hj => by
    simp at h; subst h
    simp only [flat, List.flatMap_cons, Nat.zero_mul, Nat.zero_add]
    rw [List.getElem?_append_left (by simp [Pge.cells]; omega)]
  | y :: r, i + 1, j, x, h, hj => by
    have ih := flat_get r i j x (by simpa using h) hj
    simp only [flat, List.flatMap_cons] at ih ⊢
    rw [List.getElem?_append_right (by simp [Pge.cells]; omega)]
    rw [show (i + 1) * 3 + j - (Pge.cells y).length = i * 3 + j by simp [Pge.cells]; omega]
    exact ih

/-- A list of pages in memory. -/
structure PL (B : Nat) (w : World) (g c : Nat) (l : List Pge) : Prop where
  row : w.ownsRow B 36 3 (.slice (some ⟨g, 0, none⟩) l.length c) l.length (flat l)

theorem PL.cell {B : Nat} {w : World} {g c : Nat} {l : List Pge} (h : PL B w g c l) {i : Nat} {x : Pge} (hi : l[i]? = some x) :
    w.cell? ⟨g, i * 3, none⟩ = some (.int .i64 (x.n : Nat)) ∧ w.cell? ⟨g, i * 3 + 1, none⟩ = some (.int .i64 x.kind) ∧ w.cell? ⟨g, i * 3 + 2, none⟩ = some (.string x.s) := by
  have a0 := h.row.cells (g := g) rfl (i * 3) _ (flat_get l i 0 x hi (by omega))
  have a1 := h.row.cells (g := g) rfl (i * 3 + 1) _ (flat_get l i 1 x hi (by omega))
  have a2 := h.row.cells (g := g) rfl (i * 3 + 2) _ (flat_get l i 2 x hi (by omega))
  simp only [Addr.add_lit, Nat.zero_add] at a0 a1 a2
  exact ⟨a0, a1, a2⟩
theorem PL.blk {B : Nat} {w : World} {g c : Nat} {l : List Pge} (h : PL B w g c l) : ∃ cur, w.heap[g]? = some (.cells cur 36) ∧ B ≤ g ∧ l.length ≤ c ∧ c ≤ maxLen ∧ cur.size = c * 3 ∧ cur.toList.take (l.length * 3) = flat l := by
  rcases h.row.2 with ⟨e, _⟩ | ⟨g', cap, cur, e, h1, h2, h3, h4, h5, h6⟩
  · cases e
  · injection e with e1 _ e2
    injection e1 with e1
    injection e1 with e1
    subst e1 e2
    exact ⟨cur, h2, h1, h3, h4, h5, h6⟩
theorem PL.mk' {B : Nat} {w : World} {g c : Nat} {l : List Pge} {cur : Array Value} (h2 : w.heap[g]? = some (.cells cur 36)) (h1 : B ≤ g) (h3 : l.length ≤ c) (h4 : c ≤ maxLen) (h5 : cur.size = c * 3) (h6 : cur.toList.take (l.length * 3) = flat l) : PL B w g c l :=
  ⟨⟨flat_len l, .inr ⟨g, c, cur, rfl, h1, h2, h3, h4, h5, h6⟩⟩⟩
theorem PL.same {B : Nat} {w w' : World} {g c : Nat} {l : List Pge} (h : PL B w g c l) (e : w'.heap[g]? = w.heap[g]?) : PL B w' g c l := by
  obtain ⟨cur, h2, h1, h3, h4, h5, h6⟩ := h.blk
  exact .mk' (e.trans h2) h1 h3 h4 h5 h6
theorem PL.kept {B : Nat} {w w' : World} {g c : Nat} {l : List Pge} (h : PL B w g c l) (k : D.Kept w w') : PL B w' g c l := by
  obtain ⟨cur, h2, h1, h3, h4, h5, h6⟩ := h.blk
  exact .mk' (k.block h2) h1 h3 h4 h5 h6
theorem calm36 : Calm 36 := by unfold Calm D.Calm; decide
theorem far36 : Far 36 := by unfold Far D.Quiet; decide
theorem PL.on {B B' : Nat} {w w' : World} {g c : Nat} {l : List Pge} (h : PL B w g c l) (k : On B' w w') : PL B w' g c l := by
  obtain ⟨cur, h2, h1, h3, h4, h5, h6⟩ := h.blk
  exact .mk' (k.rows _ _ _ _ h2 calm36) h1 h3 h4 h5 h6
theorem PL.mono {B B' : Nat} {w : World} {g c : Nat} {l : List Pge} (h : PL B w g c l) (k : B' ≤ B) : PL B' w g c l := by
  obtain ⟨cur, h2, h1, h3, h4, h5, h6⟩ := h.blk
  exact .mk' h2 (Nat.le_trans k h1) h3 h4 h5 h6
theorem PL.lt {B : Nat} {w : World} {g c : Nat} {l : List Pge} (h : PL B w g c l) : g < w.heap.size := by
  obtain ⟨cur, h2, _⟩ := h.blk
  exact (Array.getElem?_eq_some_iff.1 h2).1

theorem info36 : (Tryz.prog.info? 36).map (fun i => (i.zero, i.size, i.bytes)) = some (some (.agg #[.int .i64 0, .int .i64 0, .string ⟨#[]⟩]), 3, 32) := by kernel_rfl

/-- Without one. -/
def without (l : List Pge) (n : Nat) : List Pge := l.filter (fun x => !decide (x.n = n))

theorem take_next {l : List Pge} {i : Nat} {x : Pge} (h : l[i]? = some x) : l.take (i + 1) = l.take i ++ [x] := by
  obtain ⟨hi, rfl⟩ := List.getElem?_eq_some_iff.1 h
  rw [List.take_succ_eq_append_getElem hi]

theorem three_cells (W : World) (a b c : Value) (n : Nat) (hn : W.heap.size = n) : ∀ j u, [a, b, c][j]? = some u → (W.alloc (.cells #[a, b, c] 36)).cell? ((⟨n, 0, none⟩ : Addr).add j) = some u := by
  subst hn
  intro j u hj
  rcases j with _ | _ | _ | j
  · rw [← hj]; simp [Addr.add_lit]
  · rw [← hj]; simp [Addr.add_lit]
  · rw [← hj]; simp [Addr.add_lit]
  · simp at hj
theorem one_cells (a : Int) (b : Int) (c : ByteArray) : ∀ u ∈ [Value.int .i64 a, .int .i64 b, .string c], u.oneCell' = true := by
  intro u hu; simp at hu; rcases hu with rfl | rfl | rfl <;> rfl

set_option maxRecDepth 100000 in
set_option maxHeartbeats 4000000 in
theorem without_walk {w : World} {B g c : Nat} {l : List Pge} (h : PL B w g c l) (n : Nat) (hl : l.length ≤ 100) : Calls Tryz.prog 12 #[.slice (some ⟨g, 0, none⟩) l.length c, .int .i64 (n : Nat)] w fun e w' =>
    ∃ g' c', e = .returned (.slice (some ⟨g', 0, none⟩) (without l n).length c') ∧ PL w.heap.size w' g' c' (without l n) ∧ D.Kept w w' := by
  obtain ⟨i0, hi, hz0, hz1, hz2⟩ := info_parts info36
  have hl' : (l.length : Int) ≤ 100 := by omega
  have HP : Hid (PL B w g c l) := h
  have H0 : Hid (PL w.heap.size (w.alloc (.cells #[] 36)) w.heap.size 0 (without (l.take 0) n) ∧ D.Kept w (w.alloc (.cells #[] 36))) :=
    ⟨PL.mk' (cur := #[]) (heap_alloc_new w _) (Nat.le_refl _) (Nat.zero_le _) (Nat.zero_le _) rfl rfl, (D.Kept.refl w).alloc _⟩
  clear h
  go_enter Tryz.func12, Tryz.ntmps12
  go_wp2
  go_loopg [5, 6] l.length (fun m v x wx => ∃ i : Nat, i + m = l.length ∧ x = .int .i64 i ∧ ∃ g' c', v = .slice (some ⟨g', 0, none⟩) (without (l.take i) n).length c' ∧ PL w.heap.size wx g' c' (without (l.take i) n) ∧ D.Kept w wx)
  case atStart => exact ⟨0, by omega, rfl, w.heap.size, 0, rfl, H0.out.1, H0.out.2⟩
  case round =>
    obtain ⟨i, hin, rfl, g', c', rfl, hP, hK⟩ := hrel
    by_cases hlt : i < l.length
    · obtain ⟨x, hx⟩ : ∃ x, l[i]? = some x := ⟨l[i], List.getElem?_eq_getElem hlt⟩
      obtain ⟨c0, c1, c2⟩ := (HP.out.kept hK).cell hx
      have HX : Hid (l[i]? = some x) := hx
      have i1 : (0 : Int) ≤ (i : Int) := by omega
      have i2 : (i : Int) < (l.length : Int) := by omega
      have HQ : Hid (PL w.heap.size wr g' c' (without (l.take i) n)) := hP
      have hwl : (without (l.take i) n).length ≤ 100 := Nat.le_trans (List.length_filter_le _ _) (by rw [List.length_take]; omega)
      clear hx hP
      obtain ⟨xn, xk, xs⟩ := x
      dsimp only at c0 c1 c2
      by_cases hxn : xn = n
      · subst hxn
        go_wp2
        obtain ⟨n', rfl⟩ : ∃ n', gk = n' + 1 := ⟨gk - 1, by omega⟩
        go_roundg n'
        case measure => omega
        case rel =>
          have e : without (l.take (i + 1)) xn = without (l.take i) xn := by rw [take_next HX.out]; simp [without]
          refine ⟨i + 1, by omega, by go_num, g', c', ?_, ?_, hK⟩
          · rw [e]
          · rw [e]; exact HQ.out
      · have hxi : ¬ ((xn : Int) = (n : Int)) := by omega
        have e : without (l.take (i + 1)) n = without (l.take i) n ++ [⟨xn, xk, xs⟩] := by rw [take_next HX.out]; simp [without, hxn]
        have HE : Hid (without (l.take (i + 1)) n = without (l.take i) n ++ [⟨xn, xk, xs⟩]) := e
        clear e
        generalize without (l.take i) n = lk at *
        have qn := three_cells wr (.int .i64 (xn : Nat)) (.int .i64 xk) (.string xs) wr.heap.size rfl
        go_wp2_with (at_builtin; refine wpList_append_lies _ rfl _ _ 29 rfl w.heap.size 36 i0 (.agg #[.int .i64 0, .int .i64 0, .string ⟨#[]⟩]) 3 32 Tryz.underlying29 hi hz0 hz1 hz2 rfl (by decide) _ _ _ rfl (HQ.out.row.alloc _) ⟨wr.heap.size, 0, none⟩ 1 1 [.int .i64 (xn : Nat), .int .i64 xk, .string xs] rfl rfl qn (one_cells _ _ _) (by decide) (by unfold maxLen; omega) (by omega) (hK.alloc _).size _ rfl ?_; intro g2 c2 w2 ow gw _ _)
        have hK2 : D.Kept w w2 := ⟨(hK.alloc _).out.grown gw (hK.alloc _).size (fun _ e => by injection e with e; subst e; obtain ⟨_, _, hle, _⟩ := HQ.out.blk; exact hle)⟩
        have HO : Hid (PL w.heap.size w2 g2 c2 (lk ++ [⟨xn, xk, xs⟩])) := ⟨by rw [flat_append, List.length_append]; exact ow⟩
        clear ow gw
        obtain ⟨n', rfl⟩ : ∃ n', gk = n' + 1 := ⟨gk - 1, by omega⟩
        go_roundg n'
        case measure => omega
        case rel =>
          refine ⟨i + 1, by omega, by go_num, g2, c2, ?_, ?_, hK2⟩
          · rw [HE, List.length_append]; rfl
          · rw [HE]; exact HO.out
    · have hil : i = l.length := by omega
      subst hil
      have HQ : Hid (PL w.heap.size wr g' c' (without l n)) := by have := hP; rw [List.take_length] at this; exact this
      clear hP
      simp only [List.take_length]
      go_wp2
      go_ret
      exact ⟨g', c', rfl, HQ.out, hK⟩

/-- Whether one is there. -/
def hasN (l : List Pge) (n : Nat) : Bool := l.any (fun x => decide (x.n = n))
theorem without_short (l : List Pge) (n : Nat) : (without l n).length < l.length ↔ hasN l n = true := by
  unfold without hasN
  induction l with
  | nil => simp
  | cons x r ih =>
    have hle := List.length_filter_le (fun x : Pge => !decide (x.n = n)) r
    by_cases hx : x.n = n
    · simp only [hx, List.filter_cons, List.any_cons, List.length_cons, decide_true, Bool.not_true, Bool.true_or, Bool.false_eq_true, if_false, iff_true]; omega
    · simp only [hx, List.filter_cons, List.any_cons, List.length_cons, decide_false, Bool.not_false, if_true, Bool.false_or]; rw [← ih]; omega

set_option maxRecDepth 100000 in
set_option maxHeartbeats 4000000 in
theorem has_walk {w : World} {B g c : Nat} {l : List Pge} (h : PL B w g c l) (n : Nat) (hl : l.length ≤ 100) : Calls Tryz.prog 9 #[.slice (some ⟨g, 0, none⟩) l.length c, .int .i64 (n : Nat)] w fun e w' => e = .returned (.bool (hasN l n)) ∧ D.Kept w w' := by
  have f := without_walk h n hl
  have e : hasN l n = decide ((without l n).length < l.length) := by
    by_cases hh : hasN l n = true
    · rw [hh, decide_eq_true ((without_short l n).2 hh)]
    · rw [decide_eq_false (fun q => hh ((without_short l n).1 q))]; simpa using hh
  rw [e]
  generalize without l n = k at f
  clear h e
  go_enter Tryz.func9, Tryz.ntmps9
  go_wp2_with (go_at_call 12; (with_reducible refine f.mono ?_); rintro e w1 ⟨g1, c1, rfl, _, K⟩)
  go_ret
  exact ⟨rfl, K⟩
end Go.Proofs.YthlhnjjofefgcaaGreatDoor.G
