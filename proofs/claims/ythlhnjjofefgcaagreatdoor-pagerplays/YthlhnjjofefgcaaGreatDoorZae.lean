/- Joined: SWalkE SOne SCnt. What is proved of the functions beneath PagerNone,PagerBlank,PagerCuts,PagerPlays. Conditions: those that each row names. -/
import Derived.Test.YthlhnjjofefgcaaGreatDoorZad
import Derived.OwnWalk
import Derived.Laws.CopyOwn
import Derived.Laws.OwnMore
namespace Go.Proofs.YthlhnjjofefgcaaGreatDoor.S
open Go.ChangeShapes Go.WideShapes Go.ChangeAt Go.RowKit

def IsFirst (u : Nat → Bool) (m k : Nat) (r : Int) : Prop :=
  (∃ i : Nat, r = i ∧ k ≤ i ∧ i < m ∧ u i = false ∧ ∀ j, k ≤ j → j < i → u j = true) ∨ (r = -1 ∧ ∀ j, k ≤ j → j < m → u j = true)

theorem IsFirst.unique {u : Nat → Bool} {m k : Nat} {r s : Int} (h : IsFirst u m k r) (g : IsFirst u m k s) : r = s := by
  rcases h with ⟨i, rfl, h1, h2, h3, h4⟩ | ⟨rfl, h1⟩
  · rcases g with ⟨i', rfl, g1, g2, g3, g4⟩ | ⟨rfl, g1⟩
    · rcases Nat.lt_trichotomy i i' with c | c | c
      · rw [g4 i h1 c] at h3; cases h3
      · rw [c]
      · rw [h4 i' g1 c] at g3; cases g3
    · rw [g1 i h1 h2] at h3; cases h3
  · rcases g with ⟨i', rfl, g1, g2, g3, g4⟩ | ⟨rfl, g1⟩
    · rw [h1 i' g1 g2] at g3; cases g3
    · rfl
theorem IsFirst.congr {u v : Nat → Bool} {m k : Nat} {r : Int} (h : IsFirst u m k r) (e : ∀ i, i < m → u i = v i) : IsFirst v m k r := by
  rcases h with ⟨i, rfl, h1, h2, h3, h4⟩ | ⟨rfl, h1⟩
  · exact .inl ⟨i, rfl, h1, h2, by rw [← e i h2]; exact h3, fun j a b => by rw [← e j (by omega)]; exact h4 j a b⟩
  · exact .inr ⟨rfl, fun j a b => by rw [← e j b]; exact h1 j a b⟩

set_option maxRecDepth 100000 in
theorem first_at {B : Nat} {w : World} {b m l : Nat} {u : Nat → Bool} (h : SAt B w b m l u) (hL : Lds w) (n : Int) (hn : n < 9223372036854775808) :
    Calls Tryz.prog 26 #[.pointer (some ⟨b, 0, none⟩), .int .i64 n] w fun e w' => ∃ r : Int, e = .returned (.int .i64 r) ∧ IsFirst u m n.toNat r ∧ w' = w := by
  obtain ⟨ws, v, k, _⟩ := h.out
  obtain ⟨c0, c1, c2⟩ := k.cell
  have hm := k.few
  have hf := from_walk h hL n.toNat (by omega)
  clear k c1 c2
  obtain ⟨q, hq⟩ : ∃ q : Nat, n.toNat = q := ⟨_, rfl⟩
  rw [hq] at hf ⊢
  by_cases h0 : 0 ≤ n
  · obtain rfl : n = (q : Int) := by omega
    have hq0 : (0 : Int) ≤ (q : Int) := by omega
    clear hq h0 hn
    go_enter Tryz.func26, Tryz.ntmps26
    go_wp2_with (go_at_call 44; refine hf.mono ?_; rintro e w' ⟨r, rfl, hr, rfl⟩)
    · go_ret
      exact ⟨_, rfl, .inr ⟨rfl, fun j a b => hr.used j a (by omega)⟩, rfl⟩
    · go_ret
      exact ⟨_, rfl, .inl ⟨r, rfl, hr.le, by omega, hr.free, hr.used⟩, rfl⟩
  · obtain rfl : q = 0 := by omega
    clear hq
    have hf' : Calls Tryz.prog 44 #[.pointer (some ⟨b, 0, none⟩), .int .i64 0] w fun e w' => ∃ r : Nat, e = .returned (.int .i64 (r : Nat)) ∧ FreeFrom u 0 r ∧ w' = w := hf
    clear hf
    go_enter Tryz.func26, Tryz.ntmps26
    go_wp2_with (go_at_call 44; refine hf'.mono ?_; rintro e w' ⟨r, rfl, hr, rfl⟩)
    · go_ret
      exact ⟨_, rfl, .inr ⟨rfl, fun j a b => hr.used j a (by omega)⟩, rfl⟩
    · go_ret
      exact ⟨_, rfl, .inl ⟨r, rfl, hr.le, by omega, hr.free, hr.used⟩, rfl⟩

structure UAt (w : World) (v : Value) (us : List Bool) : Prop where
  row : w.ownsRow 0 4 1 v us.length (us.map Value.bool)
  form : ∃ g c, v = .slice (some ⟨g, 0, none⟩) us.length c

def usedIn (us : List Bool) (n : Nat) : Bool := us.getD n true

theorem UAt.cell {w : World} {g c : Nat} {us : List Bool} (h : UAt w (.slice (some ⟨g, 0, none⟩) us.length c) us) (j : Nat) (hj : j < us.length) : w.cell? ⟨g, j, none⟩ = some (.bool (usedIn us j)) ∧ w.frozen? ⟨g, j, none⟩ = false := by
  have h1 := h.row.cells (g := g) rfl j (.bool us[j]) (by simp [hj])
  have h2 : usedIn us j = us[j] := by unfold usedIn; rw [List.getD_eq_getElem?_getD, List.getElem?_eq_getElem hj]; rfl
  rw [h2]
  refine ⟨by simpa [Addr.add_lit] using h1, ?_⟩
  rcases h.row.2 with ⟨e, _⟩ | ⟨g', cap, cur, e, _, hg, _⟩
  · cases e
  · injection e with e
    injection e with e
    injection e with e
    subst e
    exact frozen_of_row w g j _ _ hg

theorem grown_none {a b : World} (h : a.grownBy b none) : Kept a b := ⟨(Below.refl _ a).grown h (Nat.le_refl _) (fun _ e => by cases e)⟩

theorem made_row {w w1 : World} {e : TypeId} {n : Nat} {z : Value} (ow : w1.ownsRow w.heap.size e 1 (.slice (some ⟨w.heap.size, 0, none⟩) n n) n (madeCells #[z] (n * 1)).toList) :
    w1.heap[w.heap.size]? = some (.cells (List.replicate n z).toArray e) := by
  rcases ow.2 with ⟨e, _⟩ | ⟨g, cap, cur, e, h1, h2, h3, h4, h5, h6⟩
  · cases e
  · injection e with e1 e2 e3
    injection e1 with e1
    injection e1 with e1
    subst e1
    subst e3
    rw [h2]
    rw [toList_madeCells_one, Nat.mul_one] at h6
    have : cur = (List.replicate n z).toArray := by
      apply Array.toList_inj.1
      rw [← h6, List.take_of_length_le (by simp; omega)]
    rw [this]

theorem size50 : (Tryz.prog.info? 50).map (·.size) = some 1 := by kernel_rfl

theorem copied {B : Nat} {w w1 : World} {b m l : Nat} {ws : List Nat} {p : Option Addr} {c g : Nat} (k : PAt B w1 b m l ws (.slice p ws.length c)) (hk : Kept w w1) (hgw : w.heap.size ≤ g) (zs : List Value) (hz : zs.length = ws.length) (hg : w1.heap[g]? = some (.cells zs.toArray 50)) :
    ∃ w2, (Builtin.copy_ #[92, 92] 3 #[.slice (some ⟨g, 0, none⟩) ws.length ws.length, .slice p ws.length c]).run Tryz.prog w1 = .ok (.int .i64 (ws.length : Nat)) w2 ∧ w2.heap[g]? = some (.cells (wsCells ws).toArray 50) ∧ Kept w w2 := by
  by_cases h0 : ws.length = 0
  · have e1 : ws = [] := List.eq_nil_of_length_eq_zero h0
    have e2 : zs = [] := List.eq_nil_of_length_eq_zero (by omega)
    subst e1 e2
    refine ⟨w1, run_copy_none (P := Tryz.prog) w1 92 92 3 50 (some ⟨g, 0, none⟩) p 0 0 0 c Tryz.underlying92 size50 rfl, hg, hk⟩
  · obtain ⟨g', c', e, _, _, _⟩ := k.word_at 0 (by omega)
    injection e with e1 _ _
    subst e1
    have h := run_copy_row (P := Tryz.prog) w1 92 92 3 50 g 0 ws.length ws.length ⟨g', 0, none⟩ ws.length c zs.toArray 50 (wsCells ws) Tryz.underlying92 size50 hg (by rw [wsCells_length]; exact (Nat.min_self _).symm) (fun j v hj => k.row.cells (g := g') rfl j v hj) (by simp [wsCells, hz]) (by
      intro v hv
      simp only [wsCells, List.mem_map] at hv
      obtain ⟨x, _, rfl⟩ := hv
      rfl)
    rw [wsCells_length] at h
    refine ⟨_, h, ?_, hk.setRow hgw _⟩
    rw [setRow_heap w1 g _ _ 50 _ hg]
    simp [hz]

end Go.Proofs.YthlhnjjofefgcaaGreatDoor.S

namespace Go.Proofs.YthlhnjjofefgcaaGreatDoor.S
open Go.ChangeShapes Go.WideShapes Go.ChangeAt Go.RowKit

structure Only (b g : Nat) (w w' : World) : Prop where
  below : ∀ B, B ≤ b → B ≤ g → Below B w w'
  size : w'.heap.size = w.heap.size
  block : ∀ k, k ≠ b → k ≠ g → w'.heap[k]? = w.heap[k]?

theorem Only.refl (b g : Nat) (w : World) : Only b g w w := ⟨fun _ _ _ => Below.refl _ _, rfl, fun _ _ _ => rfl⟩
theorem Only.trans {b g : Nat} {u v w : World} (h : Only b g u v) (k : Only b g v w) : Only b g u w := ⟨fun B h1 h2 => (h.below B h1 h2).trans (k.below B h1 h2), k.size.trans h.size, fun x h1 h2 => (k.block x h1 h2).trans (h.block x h1 h2)⟩
theorem Only.drew {b g : Nat} {u v : World} (h : Only b g u v) : Only b g u v.drew := ⟨fun B h1 h2 => (h.below B h1 h2).drew, h.size, h.block⟩
theorem Only.setB {b g : Nat} (w : World) (i : Nat) (v : Value) : Only b g w (w.setCell ⟨b, i, none⟩ v) :=
  ⟨fun B h1 _ => (Below.refl B w).setCell h1 v, by simp [World.setCell], fun k h1 _ => Below.heap_setCell w ⟨b, i, none⟩ v k h1⟩
theorem Only.setG {b g : Nat} (w : World) (i : Nat) (v : Value) : Only b g w (w.setCell ⟨g, i, none⟩ v) :=
  ⟨fun B _ h1 => (Below.refl B w).setCell h1 v, by simp [World.setCell], fun k _ h1 => Below.heap_setCell w ⟨g, i, none⟩ v k h1⟩

structure SA (w : World) (b g m l : Nat) (u : Nat → Bool) : Prop where
  out : ∃ ws c, PAt 0 w b m l ws (.slice (some ⟨g, 0, none⟩) ws.length c) ∧ (∀ n, u n = bitOf ws n) ∧ 0 < ws.length
  few : m ≤ 64

theorem SA.at {w : World} {b g m l : Nat} {u : Nat → Bool} (h : SA w b g m l u) : SAt 0 w b m l u := by
  obtain ⟨ws, c, h1, h2, _⟩ := h.out
  exact ⟨ws, _, h1, h2⟩
theorem SA.blocks {w : World} {b g m l : Nat} {u : Nat → Bool} (h : SA w b g m l u) : (∃ cs fr, w.heap[b]? = some (.cells cs 94 fr)) ∧ ∃ cs fr, w.heap[g]? = some (.cells cs 50 fr) := by
  obtain ⟨ws, c, h1, _, h3⟩ := h.out
  refine ⟨⟨_, _, h1.blk⟩, ?_⟩
  obtain ⟨_, cs, t, fr, hg, rfl⟩ := h1.own_block g rfl
  exact ⟨cs, fr, hg⟩
theorem SA.same {w w' : World} {b g m l : Nat} {u : Nat → Bool} (h : SA w b g m l u) (hb : w'.heap[b]? = w.heap[b]?) (hg : w'.heap[g]? = w.heap[g]?) : SA w' b g m l u := by
  obtain ⟨ws, c, h1, h2, h3⟩ := h.out
  refine ⟨⟨ws, c, ⟨hb.trans h1.blk, ⟨h1.row.1, ?_⟩, h1.leb, h1.few, h1.free, h1.long, h1.word⟩, h2, h3⟩, h.few⟩
  rcases h1.row.2 with h4 | ⟨g', cap, cur, e, h5, h6, h7⟩
  · exact .inl h4
  · have e' := e
    injection e' with e1 _ _
    injection e1 with e1
    injection e1 with e1
    subst e1
    exact .inr ⟨g, cap, cur, e, h5, hg.trans h6, h7⟩
theorem SA.kept {w w' : World} {b g m l : Nat} {u : Nat → Bool} (h : SA w b g m l u) (k : Kept w w') : SA w' b g m l u := by
  obtain ⟨⟨_, _, h1⟩, _, _, h2⟩ := h.blocks
  exact h.same ((k.block h1).trans h1.symm) ((k.block h2).trans h2.symm)

theorem reach_in {w : World} {b m l n : Nat} {ws : List Nat} {v : Value} (k : PAt 0 w b m l ws v) (hj : n / 64 < ws.length) (hn : n < 64) :
    Calls Tryz.prog 46 #[.pointer (some ⟨b, 0, none⟩), .int .i64 (n : Nat)] w fun e w' => e = .returned (.tuple #[]) ∧ w' = w := by
  obtain ⟨c0, c1, c2⟩ := k.cell
  have hl := k.long
  obtain ⟨p, c, rfl⟩ := k.form
  go_enter Tryz.func46, Tryz.ntmps46
  go_wp2
  first | go_end0 | refine bodyPost_ret (results_none rfl _ _ _) rfl ?_
  exact ⟨rfl, rfl⟩

set_option maxHeartbeats 2000000 in
set_option maxRecDepth 100000 in
theorem use_one {w : World} {b g m l : Nat} {u : Nat → Bool} (h : SA w b g m l u) (n : Nat) (hn : n < m) (hu : u n = false) (hl0 : 0 < l) :
    Calls Tryz.prog 28 #[.pointer (some ⟨b, 0, none⟩), .int .i64 (n : Nat)] w fun e w' => e = .returned (.bool true) ∧ SA w' b g m (l - 1) (useAt u n) ∧ Only b g w w' := by
  have hfew := h.few
  have hc := used_in h.at n hn
  rw [hu] at hc
  obtain ⟨ws, c, k, hws, hne⟩ := h.out
  have hj : n / 64 < ws.length := by omega
  have hr := reach_in k hj (by omega)
  obtain ⟨g', c', e, hg, hcg, hfg⟩ := k.word_at (n / 64) hj
  injection e with e1 _ e3
  injection e1 with e1
  injection e1 with e1
  subst e1
  subst e3
  obtain ⟨c0, c1, c2⟩ := k.cell
  have hll := k.long
  have hmm := k.few
  have i1 : (0 : Int) ≤ (n : Int) / 64 := by omega
  have i2 : (n : Int) / 64 < (ws.length : Int) := by omega
  have i3 : (0 : Int) ≤ (n : Int) % 64 := by omega
  have i4 : (n : Int) % 64 < 64 := by omega
  have hfb := k.frozen 1
  have HW : Hid (∀ n, u n = bitOf ws n) := hws
  have HE : Hid (0 < ws.length) := hne
  clear hws h hu hne
  go_enter Tryz.func28, Tryz.ntmps28
  go_wp2_with (first
    | (go_at_call 45; refine hc.mono ?_; rintro e w' ⟨rfl, rfl⟩)
    | (go_at_call 46; refine hr.mono ?_; rintro e w' ⟨rfl, rfl⟩))
  go_region
  rw [or_eq _ _ (k.word _ (List.getElem_mem hj))]
  have hlt := or_lt ws[n / 64] n (k.word _ (List.getElem_mem hj))
  have HU : Hid (∀ q, useAt u n q = bitOf (ws.set (n / 64) (ws[n / 64] ||| 2 ^ (n % 64))) q) := by
    intro q; rw [bitOf_use _ _ _ hj, useAt, HW.out]
  generalize ws[n / 64] ||| 2 ^ (n % 64) = x at hlt HU ⊢
  obtain ⟨k2, _⟩ := k.put (Nat.zero_le _) (n / 64) x hlt
  have k3 := k2.drew
  have o3 := (Only.setG (b := b) (g := g) ‹World› (n / 64) (.int .u64 (x : Nat))).drew
  generalize (World.setCell _ ⟨g, n / 64, none⟩ (.int .u64 (x : Nat))).drew = W at k3 o3 ⊢
  obtain ⟨d0, d1, d2⟩ := k3.cell
  have f1 := k3.frozen 1
  obtain ⟨k4, _⟩ := k3.count (l - 1) (by have := k3.free; omega)
  have o5 := o3.trans (Only.setB W 1 (.int .i64 ((l - 1 : Nat) : Int)))
  have el : ((l - 1 : Nat) : Int) = (l : Int) - 1 := by omega
  rw [el] at k4 o5
  have hlm : l ≤ 4096 := Nat.le_trans k3.free hmm
  clear k2 o3 k hcg hfg c0 c1 c2 hr hc el i1 i2 i3 i4 hfb HW
  go_wp2
  go_ret
  have e5 : (ws.set (n / 64) x).length = ws.length := List.length_set
  exact ⟨rfl, ⟨⟨ws.set (n / 64) x, _, by rw [e5]; exact k4, HU.out, by rw [e5]; exact HE.out⟩, hfew⟩, o5⟩

set_option maxHeartbeats 2000000 in
set_option maxRecDepth 100000 in
theorem free_one {w : World} {b g m l : Nat} {u : Nat → Bool} (h : SA w b g m l u) (n : Nat) (hn : n < m) (hu : u n = true) (hl0 : l < m) :
    Calls Tryz.prog 29 #[.pointer (some ⟨b, 0, none⟩), .int .i64 (n : Nat)] w fun e w' => e = .returned (.bool true) ∧ SA w' b g m (l + 1) (freeAt u n) ∧ Only b g w w' := by
  have hfew := h.few
  have hc := bit_walk h.at n (by omega)
  rw [hu] at hc
  have hr := has_in h.at n hn
  obtain ⟨ws, c, k, hws, hne⟩ := h.out
  have hj : n / 64 < ws.length := by omega
  have hmm := k.few
  have hll := k.long
  obtain ⟨g', c', e, hg, hcg, hfg⟩ := k.word_at (n / 64) hj
  injection e with e1 _ e3
  injection e1 with e1
  injection e1 with e1
  subst e1
  subst e3
  obtain ⟨c0, c1, c2⟩ := k.cell
  have i1 : (0 : Int) ≤ (n : Int) / 64 := by omega
  have i2 : (n : Int) / 64 < (ws.length : Int) := by omega
  have i3 : (0 : Int) ≤ (n : Int) % 64 := by omega
  have i4 : (n : Int) % 64 < 64 := by omega
  have hfb := k.frozen 1
  have HW : Hid (∀ n, u n = bitOf ws n) := hws
  have HE : Hid (0 < ws.length) := hne
  clear hws h hu hne
  go_enter Tryz.func29, Tryz.ntmps29
  go_wp2_with (first
    | (go_at_call 47; refine hr.mono ?_; rintro e w' ⟨rfl, rfl⟩)
    | (go_at_call 48; refine hc.mono ?_; rintro e w' ⟨rfl, rfl⟩))
  go_region
  rw [andNot_eq _ _ (k.word _ (List.getElem_mem hj))]
  have hlt := andNot_lt ws[n / 64] n (k.word _ (List.getElem_mem hj))
  have HU : Hid (∀ q, freeAt u n q = bitOf (ws.set (n / 64) (ws[n / 64] &&& (18446744073709551615 - 2 ^ (n % 64)))) q) := by
    intro q; rw [bitOf_free _ _ _ _ hj (fun j hj => andNot_bit _ n j hj), freeAt, HW.out]
  generalize ws[n / 64] &&& (18446744073709551615 - 2 ^ (n % 64)) = x at hlt HU ⊢
  obtain ⟨k2, _⟩ := k.put (Nat.zero_le _) (n / 64) x hlt
  have k3 := k2.drew
  have o3 := (Only.setG (b := b) (g := g) ‹World› (n / 64) (.int .u64 (x : Nat))).drew
  generalize (World.setCell _ ⟨g, n / 64, none⟩ (.int .u64 (x : Nat))).drew = W at k3 o3 ⊢
  obtain ⟨d0, d1, d2⟩ := k3.cell
  have f1 := k3.frozen 1
  obtain ⟨k4, _⟩ := k3.count (l + 1) hl0
  have o5 := o3.trans (Only.setB W 1 (.int .i64 ((l + 1 : Nat) : Int)))
  have el : ((l + 1 : Nat) : Int) = (l : Int) + 1 := by omega
  rw [el] at k4 o5
  clear k2 o3 k HW hcg hfg c0 c1 c2 hr hc el i1 i2 i3 i4 hfb
  go_wp2
  go_ret
  have e5 : (ws.set (n / 64) x).length = ws.length := List.length_set
  exact ⟨rfl, ⟨⟨ws.set (n / 64) x, _, by rw [e5]; exact k4, HU.out, by rw [e5]; exact HE.out⟩, hfew⟩, o5⟩

set_option maxHeartbeats 1000000 in
set_option maxRecDepth 100000 in
theorem copy_one {w : World} {b g m l : Nat} {u : Nat → Bool} (h : SA w b g m l u) :
    Calls Tryz.prog 32 #[.pointer (some ⟨b, 0, none⟩)] w fun e w' => ∃ b' g', e = .returned (.pointer (some ⟨b', 0, none⟩)) ∧ SA w' b' g' m l u ∧ w.heap.size ≤ b' ∧ w.heap.size ≤ g' ∧ Kept w w' := by
  have hfew := h.few
  obtain ⟨ws, c, k, hu, hne⟩ := h.out
  obtain ⟨i, hi, hz, hs, hby⟩ := info_parts info50
  have hll := k.long
  obtain ⟨w1, mk, ow, gw⟩ := run_makeSlice_full (P := Tryz.prog) w w.heap.size 92 50 i _ 1 Tryz.underlying92 hi hz hs .i64 .i64 ws.length (by omega) (by rw [hby]; omega) (by unfold maxLen; omega) (Nat.le_refl _)
  have k1 := grown_none gw
  obtain ⟨c0, c1, c2⟩ := k.cell
  obtain ⟨d0, d1, d2⟩ := (k.kept k1).cell
  obtain ⟨w2, cp, h2, k2⟩ := copied (k.kept k1) k1 (Nat.le_refl _) _ (by simp) (made_row ow)
  obtain ⟨e0, e1, e2⟩ := (k.kept k2).cell
  have hk2 := k2.size
  have HS : Hid (SA (w2.alloc (.cells #[.int .i64 (m : Nat), .int .i64 (l : Nat), .slice (some ⟨w.heap.size, 0, none⟩) ws.length ws.length] 94)).drew w2.heap.size w.heap.size m l u) := by
    have hlt := (Array.getElem?_eq_some_iff.1 h2).1
    refine ⟨⟨ws, _, ⟨heap_alloc_new w2 _, ⟨by simp [wsCells], .inr ⟨w.heap.size, ws.length, _, rfl, Nat.zero_le _, ((Kept.refl w2).alloc _).block h2, Nat.le_refl _, by unfold maxLen; omega, by simp [wsCells], by rw [Nat.mul_one, List.take_of_length_le (by simp [wsCells])]⟩⟩, Nat.zero_le _, k.few, k.free, k.long, k.word⟩, hu, hne⟩, hfew⟩
  clear hu ow gw h hi hz hs hby h2 k k1 hne
  go_enter Tryz.func32, Tryz.ntmps32
  go_wp2
  go_region
  go_wp2
  go_ret
  exact ⟨_, _, rfl, HS.out, hk2, Nat.le_refl _, (k2.alloc _).drew⟩
end Go.Proofs.YthlhnjjofefgcaaGreatDoor.S

namespace Go.Proofs.YthlhnjjofefgcaaGreatDoor.S
open Go.ChangeShapes Go.WideShapes Go.ChangeAt Go.RowKit

def cnt (m : Nat) (u : Nat → Bool) : Nat := (List.range m).countP (fun i => !u i)

theorem cnt_succ (m : Nat) (u : Nat → Bool) : cnt (m + 1) u = cnt m u + (if u m then 0 else 1) := by
  unfold cnt
  rw [List.range_succ, List.countP_append]
  cases h : u m <;> simp [h]
theorem cnt_le (m : Nat) (u : Nat → Bool) : cnt m u ≤ m := by
  induction m with
  | zero => simp [cnt]
  | succ m ih => rw [cnt_succ]; split <;> omega
theorem cnt_congr {m : Nat} {u v : Nat → Bool} (h : ∀ i, i < m → u i = v i) : cnt m u = cnt m v := by
  induction m with
  | zero => simp [cnt]
  | succ m ih => rw [cnt_succ, cnt_succ, ih (fun i hi => h i (by omega)), h m (by omega)]
theorem cnt_use {m n : Nat} {u : Nat → Bool} (hn : n < m) (hu : u n = false) : cnt m u = cnt m (useAt u n) + 1 := by
  induction m with
  | zero => omega
  | succ m ih =>
    rw [cnt_succ, cnt_succ]
    by_cases e : n = m
    · subst e
      rw [hu, cnt_congr (v := useAt u n) (fun i hi => by unfold useAt; rw [if_neg (by omega)])]
      simp [useAt]
    · rw [ih (by omega)]
      have e2 : useAt u n m = u m := by unfold useAt; rw [if_neg (by omega)]
      rw [e2]; omega
theorem cnt_free {m n : Nat} {u : Nat → Bool} (hn : n < m) (hu : u n = true) : cnt m (freeAt u n) = cnt m u + 1 := by
  have e : useAt (freeAt u n) n = u := by
    funext k
    unfold useAt freeAt
    split
    · rename_i e; rw [e, hu]
    · rfl
  have := cnt_use (u := freeAt u n) hn (by unfold freeAt; rw [if_pos rfl])
  rw [e] at this
  exact this

theorem use_same {u : Nat → Bool} {n : Nat} (h : u n = true) : useAt u n = u := by
  funext k; unfold useAt; split
  · rename_i e; rw [e, h]
  · rfl
theorem free_same {u : Nat → Bool} {n : Nat} (h : u n = false) : freeAt u n = u := by
  funext k; unfold freeAt; split
  · rename_i e; rw [e, h]
  · rfl

theorem use_all {w : World} {b g m : Nat} {u : Nat → Bool} (h : SA w b g m (cnt m u) u) (n : Nat) (hn : n < m) :
    Calls Tryz.prog 28 #[.pointer (some ⟨b, 0, none⟩), .int .i64 (n : Nat)] w fun e w' => e = .returned (.bool (!u n)) ∧ SA w' b g m (cnt m (useAt u n)) (useAt u n) ∧ Only b g w w' := by
  cases hu : u n with
  | true =>
    rw [use_same hu]
    refine (use_had h.at n hn hu).mono ?_
    rintro e w' ⟨rfl, rfl⟩
    exact ⟨rfl, h, Only.refl _ _ _⟩
  | false =>
    have hc := cnt_use hn hu
    refine (use_one h n hn hu (by omega)).mono ?_
    rintro e w' ⟨rfl, h1, h2⟩
    refine ⟨rfl, ?_, h2⟩
    rw [show cnt m (useAt u n) = cnt m u - 1 by omega]
    exact h1
theorem free_all {w : World} {b g m : Nat} {u : Nat → Bool} (h : SA w b g m (cnt m u) u) (n : Nat) (hn : n < m) :
    Calls Tryz.prog 29 #[.pointer (some ⟨b, 0, none⟩), .int .i64 (n : Nat)] w fun e w' => e = .returned (.bool (u n)) ∧ SA w' b g m (cnt m (freeAt u n)) (freeAt u n) ∧ Only b g w w' := by
  cases hu : u n with
  | false =>
    rw [free_same hu]
    refine (free_had h.at n hn hu).mono ?_
    rintro e w' ⟨rfl, rfl⟩
    exact ⟨rfl, h, Only.refl _ _ _⟩
  | true =>
    have hc := cnt_free hn hu
    have hl := cnt_le m (freeAt u n)
    refine (free_one h n hn hu (by omega)).mono ?_
    rintro e w' ⟨rfl, h1, h2⟩
    refine ⟨rfl, ?_, h2⟩
    rw [hc]
    exact h1

theorem SAt.toSA {B : Nat} {w : World} {b m l : Nat} {u : Nat → Bool} (h : SAt B w b m l u) (h0 : u 0 = true) (hm : m ≤ 64) : ∃ g, SA w b g m l u ∧ B ≤ g ∧ B ≤ b := by
  obtain ⟨ws, v, k, hu⟩ := h.out
  have hne : 0 < ws.length := by
    rcases Nat.eq_zero_or_pos ws.length with e | e
    · have e2 : ws = [] := List.eq_nil_of_length_eq_zero e
      rw [hu 0, e2] at h0
      simp [bitOf] at h0
    · exact e
  obtain ⟨g, c, rfl, hg, _, _⟩ := k.word_at 0 hne
  refine ⟨g, ⟨⟨ws, c, ⟨k.blk, ⟨k.row.1, ?_⟩, Nat.zero_le _, k.few, k.free, k.long, k.word⟩, hu, hne⟩, hm⟩, hg, k.leb⟩
  rcases k.row.2 with h4 | ⟨g', cap, cur, e, h5, h6⟩
  · exact .inl h4
  · exact .inr ⟨g', cap, cur, e, Nat.zero_le _, h6⟩
end Go.Proofs.YthlhnjjofefgcaaGreatDoor.S
