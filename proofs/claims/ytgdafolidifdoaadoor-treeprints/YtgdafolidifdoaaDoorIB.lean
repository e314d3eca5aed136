/- Memory: what stays; texts in memory; the walks of Type, Sign, of the reference's Type, Sign, list, tabs, and of short. Conditions: numbers are of 64 bits, texts within a bound. -/
import Derived.Test.YtgdafolidifdoaaDoorIA
import Derived.WalkSpells
import Derived.Deep.LoopGhost
import Derived.Below
import Derived.Laws.CopyRow
import Derived.Laws.OwnMore
import Derived.Laws.MakeOwn
import Derived.Laws.Rows
import Derived.Laws.ResultCell
import Derived.Laws.Cover1
import Derived.Deep.RegionHeld3
import Derived.Deep.DrawnRows
import Derived.Deep.RegionWith
import Derived.Deep.QuietTactic
import Derived.BigQuiet
import Derived.Laws.IdiomStrings
namespace Go.Proofs.YtgdafolidifdoaaDoor.Tp
open Go.ChangeShapes Go.WideShapes Go.ChangeAt Go.RowKit

/-- All blocks that were there are as they were. -/
structure Kept (w w' : World) : Prop where
  out : Below w.heap.size w w'
theorem Kept.refl (w : World) : Kept w w := ⟨Below.refl _ _⟩
theorem Kept.trans {a b c : World} (h : Kept a b) (k : Kept b c) : Kept a c := ⟨h.out.trans (k.out.mono h.out.size)⟩
theorem Kept.drew {a b : World} (h : Kept a b) : Kept a b.drew := ⟨h.out.drew⟩
theorem Kept.alloc {a b : World} (h : Kept a b) (o : Obj) : Kept a (b.alloc o) := ⟨h.out.alloc h.out.size o⟩
theorem Kept.block {w w' : World} (h : Kept w w') {k : Nat} {o : Obj} (hk : w.heap[k]? = some o) : w'.heap[k]? = some o :=
  (h.out.block k (Array.getElem?_eq_some_iff.1 hk).1).trans hk
theorem Kept.size {w w' : World} (h : Kept w w') : w.heap.size ≤ w'.heap.size := h.out.size
theorem Kept.setCell {a b : World} (h : Kept a b) {p : Addr} (hp : a.heap.size ≤ p.block) (u : Value) : Kept a (b.setCell p u) := ⟨h.out.setCell hp u⟩
theorem Kept.cell {w w' : World} (h : Kept w w') {a : Addr} {u : Value} (k : w.cell? a = some u) : w'.cell? a = some u :=
  (h.out.cell (World.block_lt_of_cell? w _ k)).trans k
theorem Kept.grown {w w' : World} (h : Kept w w') (r : Option Nat) : w.grownBy w' r := ⟨h.out.os, h.out.tape, h.out.output, h.out.size, fun i hi _ => h.out.block i hi⟩
theorem size_alloc (w : World) (o : Obj) : (w.alloc o).heap.size = w.heap.size + 1 := Array.size_push ..
theorem alloc_at (w : World) (o : Obj) : (w.alloc o).heap[w.heap.size]? = some o := by
  show (w.heap.push o)[w.heap.size]? = some o
  simp
theorem grown_kept {w w' : World} {B : Nat} {r : Option Nat} (W : World) (h : Kept W w) (hg : w.grownBy w' r) (hB : W.heap.size ≤ B) (hr : ∀ k, r = some k → B ≤ k) : Kept W w' :=
  ⟨h.out.grown hg h.size fun k hk => Nat.le_trans hB (hr k hk)⟩
theorem owns_shape {w : World} {base e size : Nat} {v : Value} {n : Nat} {xs : List Value} (h : w.ownsRow base e size v n xs) : ∃ p cap, v = .slice p n cap := by
  rcases h.2 with ⟨rfl, rfl⟩ | ⟨g, cap, cur, rfl, _⟩
  · exact ⟨_, _, rfl⟩
  · exact ⟨_, _, rfl⟩
theorem row_at (w : World) (xs : List ByteArray) (cs : Array Value) (t : TypeId) (e : cs.toList = xs.map fun x => .string x) {W : World} (hW : Kept (w.alloc (.cells cs t)) W) {k : Nat} {x : ByteArray} (hx : xs[k]? = some x) : W.cell? ⟨w.heap.size, k, none⟩ = some (.string x) := by
  rw [cell_of_row W w.heap.size k _ _ _ (hW.block (alloc_at w _)), ← Array.getElem?_toList, e, List.getElem?_map, hx]; rfl
theorem toList_data (a : ByteArray) : a.toList = a.data.toList := by
  have h1 := ByteArray.toList_mk a.data.toList
  simp only [Array.toArray_toList] at h1
  exact h1
theorem seq_eq {a b : ByteArray} : (a.toList == b.toList) = true ↔ a = b := by
  rw [toList_data, toList_data, beq_iff_eq]
  constructor
  · intro h
    exact ByteArray.ext (Array.toList_inj.1 h)
  · intro h; rw [h]

/-- Texts in memory. -/
structure Ag (w : World) (p : Option Addr) (n c : Nat) (l : List ByteArray) : Prop where
  len : l.length = n
  le : n ≤ c
  cap : c ≤ maxLen
  out : n = 0 ∨ ∃ b o, p = some ⟨b, o, none⟩ ∧ ∀ j x, l[j]? = some x → w.cell? ⟨b, o + j, none⟩ = some (.string x)
theorem Ag.kept {w w' : World} {p : Option Addr} {n c : Nat} {l : List ByteArray} (h : Ag w p n c l) (k : Kept w w') : Ag w' p n c l :=
  ⟨h.len, h.le, h.cap, h.out.imp id fun ⟨b, o, e, f⟩ => ⟨b, o, e, fun j x hx => k.cell (f j x hx)⟩⟩
theorem Ag.at {w : World} {p : Option Addr} {n c : Nat} {l : List ByteArray} (h : Ag w p n c l) {i : Nat} {x : ByteArray} (hx : l[i]? = some x) : ∃ b o, p = some ⟨b, o, none⟩ ∧ w.cell? ⟨b, o + i, none⟩ = some (.string x) := by
  rcases h.out with e | ⟨b, o, e, f⟩
  · have := (List.getElem?_eq_some_iff.1 hx).1
    have := h.len; omega
  · exact ⟨b, o, e, f i x hx⟩
theorem ag_nil (w : World) : Ag w none 0 0 [] := ⟨rfl, Nat.le_refl _, Nat.zero_le _, .inl rfl⟩

set_option maxRecDepth 100000 in
set_option maxHeartbeats 1000000 in
theorem type_walk (t : Int) (w : World) : Calls Tryd.prog 12 #[.int .i64 t] w fun e w' => e = .returned (.string (typ t)) ∧ w' = w := by
  go_enter Tryd.func12, Tryd.ntmps12
  go_wp2
  all_goals go_ret
  all_goals refine ⟨?_, rfl⟩
  all_goals (refine congrArg Ending.returned (congrArg Value.string ?_))
  all_goals unfold typ
  all_goals ((repeat' split) <;> first | rfl | (exfalso; simp only [beq_iff_eq, beq_eq_false_iff_ne, ne_eq] at *; omega))

set_option maxRecDepth 100000 in
set_option maxHeartbeats 1000000 in
theorem sign_walk (t : Int) (w : World) : Calls Tryd.prog 14 #[.int .i64 t] w fun e w' => e = .returned (.string (sgn t)) ∧ w' = w := by
  go_enter Tryd.func14, Tryd.ntmps14
  go_wp2
  all_goals go_ret
  all_goals refine ⟨?_, rfl⟩
  all_goals (refine congrArg Ending.returned (congrArg Value.string ?_))
  all_goals unfold sgn
  all_goals ((repeat' split) <;> first | rfl | (exfalso; simp only [beq_iff_eq, beq_eq_false_iff_ne, ne_eq] at *; omega))

def tyl : List ByteArray := [⟨#[]⟩, ⟨#[105, 110, 116]⟩, ⟨#[114, 101, 102]⟩, ⟨#[102, 117, 110]⟩]
theorem tyl_at {t : Int} {i : Nat} (h : t = (i : Nat)) (hi : i < 4) : tyl[i]? = some (typ t) := by
  have : i = 0 ∨ i = 1 ∨ i = 2 ∨ i = 3 := by omega
  rcases this with rfl | rfl | rfl | rfl <;> rw [h] <;> rfl
def sgl : List ByteArray := [⟨#[]⟩, ⟨#[43]⟩, ⟨#[45]⟩, ⟨#[42]⟩, ⟨#[60]⟩, ⟨#[61, 61]⟩]
theorem sgl_at {t : Int} {i : Nat} (h : t = (i : Nat)) (hi : i < 6) : sgl[i]? = some (sgn t) := by
  have : i = 0 ∨ i = 1 ∨ i = 2 ∨ i = 3 ∨ i = 4 ∨ i = 5 := by omega
  rcases this with rfl | rfl | rfl | rfl | rfl | rfl <;> rw [h] <;> rfl

set_option maxRecDepth 100000 in
set_option maxHeartbeats 1000000 in
theorem rtype_walk (t : Int) (ht : I64 t) (w : World) : Calls Tryd.prog 13 #[.int .i64 t] w fun e w' => e = .returned (.string (typ t)) ∧ Kept w w' := by
  have kA : Hid (Kept w (w.alloc (.cells #[.string ⟨#[]⟩, .string ⟨#[105, 110, 116]⟩, .string ⟨#[114, 101, 102]⟩, .string ⟨#[102, 117, 110]⟩] 9))) := (Kept.refl w).alloc _
  have HC : Hid (∀ (k : Nat) (x : ByteArray), tyl[k]? = some x → (w.alloc (.cells #[.string ⟨#[]⟩, .string ⟨#[105, 110, 116]⟩, .string ⟨#[114, 101, 102]⟩, .string ⟨#[102, 117, 110]⟩] 9)).cell? ⟨w.heap.size, k, none⟩ = some (.string x)) := fun k x hx => row_at w tyl _ _ rfl (Kept.refl _) hx
  have h1 := ht.1
  have h2 := ht.2
  by_cases hn : t < 0
  · have he : Hid (typ t = ⟨#[]⟩) := by show _ = _; unfold typ; rw [if_neg (by omega), if_neg (by omega), if_neg (by omega)]
    go_enter Tryd.func13, Tryd.ntmps13
    go_wp2
    go_ret
    exact ⟨by rw [he.out]; rfl, kA.out⟩
  · by_cases hm : 4 ≤ t
    · have he : Hid (typ t = ⟨#[]⟩) := by show _ = _; unfold typ; rw [if_neg (by omega), if_neg (by omega), if_neg (by omega)]
      go_enter Tryd.func13, Tryd.ntmps13
      go_wp2
      go_ret
      exact ⟨by rw [he.out]; rfl, kA.out⟩
    · obtain ⟨i, rfl⟩ : ∃ i : Nat, t = (i : Nat) := ⟨t.toNat, by omega⟩
      have hc := HC.out i _ (tyl_at rfl (by omega))
      have hi : i < 4 := by omega
      generalize typ (i : Nat) = x at *
      clear HC h1 h2 hn ht
      go_enter Tryd.func13, Tryd.ntmps13
      go_wp2
      go_ret
      exact ⟨rfl, kA.out⟩

set_option maxRecDepth 100000 in
set_option maxHeartbeats 1000000 in
theorem rsign_walk (t : Int) (ht : I64 t) (w : World) : Calls Tryd.prog 15 #[.int .i64 t] w fun e w' => e = .returned (.string (sgn t)) ∧ Kept w w' := by
  have kA : Hid (Kept w (w.alloc (.cells #[.string ⟨#[]⟩, .string ⟨#[43]⟩, .string ⟨#[45]⟩, .string ⟨#[42]⟩, .string ⟨#[60]⟩, .string ⟨#[61, 61]⟩] 9))) := (Kept.refl w).alloc _
  have HC : Hid (∀ (k : Nat) (x : ByteArray), sgl[k]? = some x → (w.alloc (.cells #[.string ⟨#[]⟩, .string ⟨#[43]⟩, .string ⟨#[45]⟩, .string ⟨#[42]⟩, .string ⟨#[60]⟩, .string ⟨#[61, 61]⟩] 9)).cell? ⟨w.heap.size, k, none⟩ = some (.string x)) := fun k x hx => row_at w sgl _ _ rfl (Kept.refl _) hx
  have h1 := ht.1
  have h2 := ht.2
  by_cases hn : t < 0
  · have he : Hid (sgn t = ⟨#[]⟩) := by show _ = _; unfold sgn; iterate 5 rw [if_neg (by omega)]
    go_enter Tryd.func15, Tryd.ntmps15
    go_wp2
    go_ret
    exact ⟨by rw [he.out]; rfl, kA.out⟩
  · by_cases hm : 6 ≤ t
    · have he : Hid (sgn t = ⟨#[]⟩) := by show _ = _; unfold sgn; iterate 5 rw [if_neg (by omega)]
      go_enter Tryd.func15, Tryd.ntmps15
      go_wp2
      go_ret
      exact ⟨by rw [he.out]; rfl, kA.out⟩
    · obtain ⟨i, rfl⟩ : ∃ i : Nat, t = (i : Nat) := ⟨t.toNat, by omega⟩
      have hc := HC.out i _ (sgl_at rfl (by omega))
      have hi : i < 6 := by omega
      generalize sgn (i : Nat) = x at *
      clear HC h1 h2 hn ht
      go_enter Tryd.func15, Tryd.ntmps15
      go_wp2
      go_ret
      exact ⟨rfl, kA.out⟩

/-- A text's first bytes. -/
def sho (s : ByteArray) : ByteArray := s.extract 0 (min s.size 6)
theorem sho_size (s : ByteArray) : (sho s).size ≤ 6 := by unfold sho; rw [ByteArray.size_extract]; omega
set_option maxRecDepth 100000 in
theorem short_walk (s : ByteArray) (hs : s.size ≤ maxLen) (w : World) : Calls Tryd.prog 18 #[.string s] w fun e w' => e = .returned (.string (sho s)) ∧ w' = w := by
  unfold maxLen at hs
  by_cases h6 : s.size ≤ 6
  · have HS : Hid (sho s = s) := by
      show s.extract 0 (min s.size 6) = s
      rw [Nat.min_eq_left h6]
      exact ByteArray.ext (by rw [ByteArray.data_extract]; exact Array.extract_size)
    have h7 : (s.size : Int) ≤ 6 := by omega
    go_enter Tryd.func18, Tryd.ntmps18
    go_wp2
    all_goals go_ret
    all_goals first
      | exact ⟨by rw [HS.out]; rfl, rfl⟩
      | (exfalso; omega)
  · have HS : Hid (sho s = s.extract 0 6) := by
      show s.extract 0 (min s.size 6) = _
      rw [Nat.min_eq_right (by omega)]
    have h7 : ¬ (s.size : Int) ≤ 6 := by omega
    have h8 : 6 ≤ s.size := by omega
    go_enter Tryd.func18, Tryd.ntmps18
    go_wp2
    all_goals go_ret
    all_goals first
      | exact ⟨by rw [HS.out]; rfl, rfl⟩
      | (exfalso; omega)

set_option maxRecDepth 100000 in
set_option maxHeartbeats 1000000 in
theorem list_walk {w : World} {p : Option Addr} {n c : Nat} {l : List ByteArray} (h : Ag w p n c l) (hs : (lst l).size ≤ 1000000000) :
    Calls Tryd.prog 27 #[.slice p n c] w fun e w' => e = .returned (.string (lst l)) ∧ w' = w := by
  have hn : n ≤ 9223372036854775807 ∧ c ≤ 9223372036854775807 := by have := h.cap; unfold maxLen at this; have := h.le; omega
  obtain ⟨hn1, hn2⟩ := hn
  have hle := h.le
  have HA : Hid (Ag w p n c l) := h
  have HS : Hid (∀ i, (lst (l.take i)).size ≤ 1000000000) := fun i => Nat.le_trans (lst_take_le l i) hs
  have HZ : Hid (lst l = lst (l.take n)) := by show _ = _; rw [← h.len, List.take_length]
  clear h hs
  go_enter Tryd.func27, Tryd.ntmps27
  go_wp2
  go_loopg [3, 4] n (fun g sv iv wx => ∃ i : Nat, i + g = n ∧ sv = .string (lst (l.take i)) ∧ iv = .int .i64 (i : Nat) ∧ wx = w)
  case atStart => exact ⟨0, by omega, rfl, rfl, rfl⟩
  case round =>
    obtain ⟨i, hg, rfl, rfl, rfl⟩ := hrel
    cases gk with
    | zero =>
      obtain rfl : i = n := by omega
      have hi2 : ¬ (i : Int) < (i : Nat) := by omega
      clear hg
      go_wp2
      go_ret
      exact ⟨by rw [HZ.out]; rfl, rfl⟩
    | succ g =>
      have hlt : (i : Int) < (n : Nat) := by omega
      have hltn : i < n := by omega
      have HG : Hid (i + g + 1 = n) := by show i + g + 1 = n; omega
      obtain ⟨x, hx⟩ : ∃ x, l[i]? = some x := ⟨_, List.getElem?_eq_getElem (by rw [HA.out.len]; exact hltn)⟩
      obtain ⟨b, o, rfl, c0⟩ := HA.out.at hx
      have HT : Hid (lst (l.take (i + 1)) = if i = 0 then x else lst (l.take i) ++ ⟨#[44, 32]⟩ ++ x) := lst_next hx
      have s1 := HS.out (i + 1)
      rw [HT.out] at s1
      by_cases h0 : i = 0
      · subst h0
        rw [if_pos rfl] at s1
        rw [Nat.add_zero] at c0
        have e0 : lst (l.take 0) = ⟨#[]⟩ := rfl
        rw [e0]
        have e2 : (⟨#[]⟩ : ByteArray) ++ x = x := em_app x
        have b2 : ¬ 9223372036854775807 < (⟨#[]⟩ : ByteArray).size + x.size := by simp only [lsz, List.length_nil]; omega
        clear hg hx e0
        go_wp2
        go_roundg g
        case measure => omega
        case rel => exact ⟨1, by have := HG.out; omega, by rw [HT.out]; simp, by go_num, rfl⟩
      · rw [if_neg h0] at s1
        simp only [ByteArray.size_append, lsz, List.length_cons, List.length_nil] at s1
        have b1 : ¬ 9223372036854775807 < (lst (l.take i)).size + (⟨#[44, 32]⟩ : ByteArray).size := by simp only [lsz, List.length_cons, List.length_nil]; omega
        have b2 : ¬ 9223372036854775807 < (lst (l.take i) ++ (⟨#[44, 32]⟩ : ByteArray)).size + x.size := by simp only [ByteArray.size_append, lsz, List.length_cons, List.length_nil]; omega
        have hp : (0 : Int) < (i : Nat) := by omega
        have HT2 : Hid (lst (l.take (i + 1)) = lst (l.take i) ++ ⟨#[44, 32]⟩ ++ x) := by show _ = _; rw [HT.out, if_neg h0]
        generalize lst (l.take i) = u at *
        clear hg hx HT h0 s1
        go_wp2
        go_roundg g
        case measure => omega
        case rel => exact ⟨i + 1, by have := HG.out; omega, by rw [HT2.out], by go_num, rfl⟩

/-- So many tabs. -/
def tb : Nat → ByteArray
  | 0 => ⟨#[]⟩
  | n + 1 => tb n ++ ⟨#[9]⟩
theorem tb_size : ∀ n, (tb n).size = n
  | 0 => rfl
  | n + 1 => by rw [tb, ByteArray.size_append, tb_size n]; rfl
set_option maxRecDepth 100000 in
set_option maxHeartbeats 1000000 in
theorem tabs_walk (n : Nat) (hn : n ≤ 1000) (w : World) :
    Calls Tryd.prog 35 #[.int .i64 (n : Nat)] w fun e w' => e = .returned (.string (tb n)) ∧ w' = w := by
  go_enter Tryd.func35, Tryd.ntmps35
  go_wp2
  go_loopg [3, 4] n (fun g sv iv wx => ∃ i : Nat, i + g = n ∧ sv = .string (tb i) ∧ iv = .int .i64 (i : Nat) ∧ wx = w)
  case atStart => exact ⟨0, by omega, rfl, rfl, rfl⟩
  case round =>
    obtain ⟨i, hg, rfl, rfl, rfl⟩ := hrel
    cases gk with
    | zero =>
      obtain rfl : i = n := by omega
      have hi2 : ¬ (i : Int) < (i : Nat) := by omega
      clear hg
      go_wp2
      go_ret
      exact ⟨rfl, rfl⟩
    | succ g =>
      have hlt : (i : Int) < (n : Nat) := by omega
      have HG : Hid (i + g + 1 = n) := by show i + g + 1 = n; omega
      have b1 : ¬ 9223372036854775807 < (tb i).size + (⟨#[9]⟩ : ByteArray).size := by simp only [tb_size, lsz, List.length_cons, List.length_nil]; omega
      have HT : Hid (tb (i + 1) = tb i ++ ⟨#[9]⟩) := rfl
      generalize tb i = u at *
      have hi9 : i < 1000 := by omega
      clear hg
      go_wp2
      go_roundg g
      case measure => omega
      case rel => exact ⟨i + 1, by have := HG.out; omega, by rw [HT.out], by go_num, rfl⟩
end Go.Proofs.YtgdafolidifdoaaDoor.Tp
