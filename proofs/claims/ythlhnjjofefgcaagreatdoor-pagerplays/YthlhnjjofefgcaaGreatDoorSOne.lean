/- Places that have a word at least, and no more than 64: the walks of Use, Free and Copy, with a word on which blocks turn. Conditions: no more than 64 places; the row of words is there. -/
import Derived.Test.YthlhnjjofefgcaaGreatDoorSWalkE
namespace Go.Proofs.YthlhnjjofefgcaaGreatDoor.S
open Go.ChangeShapes Go.WideShapes Go.ChangeAt Go.RowKit

/-- Two blocks alone turn. -/
structure Only (b g : Nat) (w w' : World) : Prop where
  below : ∀ B, B ≤ b → B ≤ g → Below B w w'
  size : w'.heap.size = w.heap.size
  block : ∀ k, k ≠ b → k ≠ g → w'.heap[k]? = w.heap[k]?

theorem Only.refl (b g : Nat) (w : World) : Only b g w w := ⟨fun _ _ _ => Below.refl _ _, rfl, fun _ _ _ => rfl⟩
theorem Only.trans {b g : Nat} {u v w : World} (h : Only b g u v) (k : Only b g v w) : Only b g u w := ⟨fun B h1 h2 => (h.below B h1 h2).trans (k.below B h1 h2), k.size.trans h.size, fun x h1 h2 => (k.block x h1 h2).trans (h.block x h1 h2)⟩
theorem Only.drew {b g : Nat} {u v : World} (h : Only b g u v) : Only b g u v.drew := ⟨fun B h1 h2 => (h.below B h1 h2).drew, h.size, h.block⟩
theorem Only.setB {b g : Nat} (w : World) (i : Nat) (v : Value) : Only b g w (w.setCell ⟨b, i, none⟩ v) :=
  ⟨fun B h1 _ => (Below.refl B w).setCell h1 v, by simp [World.setCell], fun k h1 _ => Below.heap_setCell w ⟨b, i, none⟩ v k h1⟩
theorem Only.setG {b g : Nat} (w : World) (i : Nat) (v : Value) : Only b g w (w.setCell ⟨g, i, none⟩ v) :=
  ⟨fun B _ h1 => (Below.refl B w).setCell h1 v, by simp [World.setCell], fun k _ h1 => Below.heap_setCell w ⟨g, i, none⟩ v k h1⟩

/-- Places in memory: the block, the block of words; how many, how many are free, which are used. -/
structure SA (w : World) (b g m l : Nat) (u : Nat → Bool) : Prop where
  out : ∃ ws c, PAt 0 w b m l ws (.slice (some ⟨g, 0, none⟩) ws.length c) ∧ (∀ n, u n = bitOf ws n) ∧ 0 < ws.length
  few : m ≤ 64

theorem SA.at {w : World} {b g m l : Nat} {u : Nat → Bool} (h : SA w b g m l u) : SAt 0 w b m l u := by
  obtain ⟨ws, c, h1, h2, _⟩ := h.out
  exact ⟨ws, _, h1, h2⟩
theorem SA.blocks {w : World} {b g m l : Nat} {u : Nat → Bool} (h : SA w b g m l u) : (∃ cs fr, w.heap[b]? = some (.cells cs 94 fr)) ∧ ∃ cs fr, w.heap[g]? = some (.cells cs 50 fr) := by
  obtain ⟨ws, c, h1, _, h3⟩ := h.out
  refine ⟨⟨_, _, h1.blk⟩, ?_⟩
  obtain ⟨_, cs, t, fr, hg, rfl⟩ := h1.own_block g rfl
  exact ⟨cs, fr, hg⟩
theorem SA.same {w w' : World} {b g m l : Nat} {u : Nat → Bool} (h : SA w b g m l u) (hb : w'.heap[b]? = w.heap[b]?) (hg : w'.heap[g]? = w.heap[g]?) : SA w' b g m l u := by
  obtain ⟨ws, c, h1, h2, h3⟩ := h.out
  refine ⟨⟨ws, c, ⟨hb.trans h1.blk, ⟨h1.row.1, ?_⟩, h1.leb, h1.few, h1.free, h1.long, h1.word⟩, h2, h3⟩, h.few⟩
  rcases h1.row.2 with h4 | ⟨g', cap, cur, e, h5, h6, h7⟩
  · exact .inl h4
  · have e' := e
    injection e' with e1 _ _
    injection e1 with e1
    injection e1 with e1
    subst e1
    exact .inr ⟨g, cap, cur, e, h5, hg.trans h6, h7⟩
theorem SA.kept {w w' : World} {b g m l : Nat} {u : Nat → Bool} (h : SA w b g m l u) (k : Kept w w') : SA w' b g m l u := by
  obtain ⟨⟨_, _, h1⟩, _, _, h2⟩ := h.blocks
  exact h.same ((k.block h1).trans h1.symm) ((k.block h2).trans h2.symm)

theorem reach_in {w : World} {b m l n : Nat} {ws : List Nat} {v : Value} (k : PAt 0 w b m l ws v) (hj : n / 64 < ws.length) (hn : n < 64) :
    Calls Tryz.prog 46 #[.pointer (some ⟨b, 0, none⟩), .int .i64 (n : Nat)] w fun e w' => e = .returned (.tuple #[]) ∧ w' = w := by
  obtain ⟨c0, c1, c2⟩ := k.cell
  have hl := k.long
  obtain ⟨p, c, rfl⟩ := k.form
  go_enter Tryz.func46, Tryz.ntmps46
  go_wp2
  first | go_end0 | refine bodyPost_ret (results_none rfl _ _ _) rfl ?_
  exact ⟨rfl, rfl⟩

set_option maxHeartbeats 2000000 in
set_option maxRecDepth 100000 in
theorem use_one {w : World} {b g m l : Nat} {u : Nat → Bool} (h : SA w b g m l u) (n : Nat) (hn : n < m) (hu : u n = false) (hl0 : 0 < l) :
    Calls Tryz.prog 28 #[.pointer (some ⟨b, 0, none⟩), .int .i64 (n : Nat)] w fun e w' => e = .returned (.bool true) ∧ SA w' b g m (l - 1) (useAt u n) ∧ Only b g w w' := by
  have hfew := h.few
  have hc := used_in h.at n hn
  rw [hu] at hc
  obtain ⟨ws, c, k, hws, hne⟩ := h.out
  have hj : n / 64 < ws.length := by omega
  have hr := reach_in k hj (by omega)
  obtain ⟨g', c', e, hg, hcg, hfg⟩ := k.word_at (n / 64) hj
  injection e with e1 _ e3
  injection e1 with e1
  injection e1 with e1
  subst e1
  subst e3
  obtain ⟨c0, c1, c2⟩ := k.cell
  have hll := k.long
  have hmm := k.few
  have i1 : (0 : Int) ≤ (n : Int) / 64 := by omega
  have i2 : (n : Int) / 64 < (ws.length : Int) := by omega
  have i3 : (0 : Int) ≤ (n : Int) % 64 := by omega
  have i4 : (n : Int) % 64 < 64 := by omega
  have hfb := k.frozen 1
  have HW : Hid (∀ n, u n = bitOf ws n) := hws
  have HE : Hid (0 < ws.length) := hne
  clear hws h hu hne
  go_enter Tryz.func28, Tryz.ntmps28
  go_wp2_with (first
    | (go_at_call 45; refine hc.mono ?_; rintro e w' ⟨rfl, rfl⟩)
    | (go_at_call 46; refine hr.mono ?_; rintro e w' ⟨rfl, rfl⟩))
  go_region
  rw [or_eq _ _ (k.word _ (List.getElem_mem hj))]
  have hlt := or_lt ws[n / 64] n (k.word _ (List.getElem_mem hj))
  have HU : Hid (∀ q, useAt u n q = bitOf (ws.set (n / 64) (ws[n / 64] ||| 2 ^ (n % 64))) q) := by
    intro q; rw [bitOf_use _ _ _ hj, useAt, HW.out]
  generalize ws[n / 64] ||| 2 ^ (n % 64) = x at hlt HU ⊢
  obtain ⟨k2, _⟩ := k.put (Nat.zero_le _) (n / 64) x hlt
  have k3 := k2.drew
  have o3 := (Only.setG (b := b) (g := g) ‹World› (n / 64) (.int .u64 (x : Nat))).drew
  generalize (World.setCell _ ⟨g, n / 64, none⟩ (.int .u64 (x : Nat))).drew = W at k3 o3 ⊢
  obtain ⟨d0, d1, d2⟩ := k3.cell
  have f1 := k3.frozen 1
  obtain ⟨k4, _⟩ := k3.count (l - 1) (by have := k3.free; omega)
  have o5 := o3.trans (Only.setB W 1 (.int .i64 ((l - 1 : Nat) : Int)))
  have el : ((l - 1 : Nat) : Int) = (l : Int) - 1 := by omega
  rw [el] at k4 o5
  have hlm : l ≤ 4096 := Nat.le_trans k3.free hmm
  clear k2 o3 k hcg hfg c0 c1 c2 hr hc el i1 i2 i3 i4 hfb HW
  go_wp2
  go_ret
  have e5 : (ws.set (n / 64) x).length = ws.length := List.length_set
  exact ⟨rfl, ⟨⟨ws.set (n / 64) x, _, by rw [e5]; exact k4, HU.out, by rw [e5]; exact HE.out⟩, hfew⟩, o5⟩

set_option maxHeartbeats 2000000 in
set_option maxRecDepth 100000 in
theorem free_one {w : World} {b g m l : Nat} {u : Nat → Bool} (h : SA w b g m l u) (n : Nat) (hn : n < m) (hu : u n = true) (hl0 : l < m) :
    Calls Tryz.prog 29 #[.pointer (some ⟨b, 0, none⟩), .int .i64 (n : Nat)] w fun e w' => e = .returned (.bool true) ∧ SA w' b g m (l + 1) (freeAt u n) ∧ Only b g w w' := by
  have hfew := h.few
  have hc := bit_walk h.at n (by omega)
  rw [hu] at hc
  have hr := has_in h.at n hn
  obtain ⟨ws, c, k, hws, hne⟩ := h.out
  have hj : n / 64 < ws.length := by omega
  have hmm := k.few
  have hll := k.long
  obtain ⟨g', c', e, hg, hcg, hfg⟩ := k.word_at (n / 64) hj
  injection e with e1 _ e3
  injection e1 with e1
  injection e1 with e1
  subst e1
  subst e3
  obtain ⟨c0, c1, c2⟩ := k.cell
  have i1 : (0 : Int) ≤ (n : Int) / 64 := by omega
  have i2 : (n : Int) / 64 < (ws.length : Int) := by omega
  have i3 : (0 : Int) ≤ (n : Int) % 64 := by omega
  have i4 : (n : Int) % 64 < 64 := by omega
  have hfb := k.frozen 1
  have HW : Hid (∀ n, u n = bitOf ws n) := hws
  have HE : Hid (0 < ws.length) := hne
  clear hws h hu hne
  go_enter Tryz.func29, Tryz.ntmps29
  go_wp2_with (first
    | (go_at_call 47; refine hr.mono ?_; rintro e w' ⟨rfl, rfl⟩)
    | (go_at_call 48; refine hc.mono ?_; rintro e w' ⟨rfl, rfl⟩))
  go_region
  rw [andNot_eq _ _ (k.word _ (List.getElem_mem hj))]
  have hlt := andNot_lt ws[n / 64] n (k.word _ (List.getElem_mem hj))
  have HU : Hid (∀ q, freeAt u n q = bitOf (ws.set (n / 64) (ws[n / 64] &&& (18446744073709551615 - 2 ^ (n % 64)))) q) := by
    intro q; rw [bitOf_free _ _ _ _ hj (fun j hj => andNot_bit _ n j hj), freeAt, HW.out]
  generalize ws[n / 64] &&& (18446744073709551615 - 2 ^ (n % 64)) = x at hlt HU ⊢
  obtain ⟨k2, _⟩ := k.put (Nat.zero_le _) (n / 64) x hlt
  have k3 := k2.drew
  have o3 := (Only.setG (b := b) (g := g) ‹World› (n / 64) (.int .u64 (x : Nat))).drew
  generalize (World.setCell _ ⟨g, n / 64, none⟩ (.int .u64 (x : Nat))).drew = W at k3 o3 ⊢
  obtain ⟨d0, d1, d2⟩ := k3.cell
  have f1 := k3.frozen 1
  obtain ⟨k4, _⟩ := k3.count (l + 1) hl0
  have o5 := o3.trans (Only.setB W 1 (.int .i64 ((l + 1 : Nat) : Int)))
  have el : ((l + 1 : Nat) : Int) = (l : Int) + 1 := by omega
  rw [el] at k4 o5
  clear k2 o3 k HW hcg hfg c0 c1 c2 hr hc el i1 i2 i3 i4 hfb
  go_wp2
  go_ret
  have e5 : (ws.set (n / 64) x).length = ws.length := List.length_set
  exact ⟨rfl, ⟨⟨ws.set (n / 64) x, _, by rw [e5]; exact k4, HU.out, by rw [e5]; exact HE.out⟩, hfew⟩, o5⟩

set_option maxHeartbeats 1000000 in
set_option maxRecDepth 100000 in
theorem copy_one {w : World} {b g m l : Nat} {u : Nat → Bool} (h : SA w b g m l u) :
    Calls Tryz.prog 32 #[.pointer (some ⟨b, 0, none⟩)] w fun e w' => ∃ b' g', e = .returned (.pointer (some ⟨b', 0, none⟩)) ∧ SA w' b' g' m l u ∧ w.heap.size ≤ b' ∧ w.heap.size ≤ g' ∧ Kept w w' := by
  have hfew := h.few
  obtain ⟨ws, c, k, hu, hne⟩ := h.out
  obtain ⟨i, hi, hz, hs, hby⟩ := info_parts info50
  have hll := k.long
  obtain ⟨w1, mk, ow, gw⟩ := run_makeSlice_full (P := Tryz.prog) w w.heap.size 92 50 i _ 1 Tryz.underlying92 hi hz hs .i64 .i64 ws.length (by omega) (by rw [hby]; omega) (by unfold maxLen; omega) (Nat.le_refl _)
  have k1 := grown_none gw
  obtain ⟨c0, c1, c2⟩ := k.cell
  obtain ⟨d0, d1, d2⟩ := (k.kept k1).cell
  obtain ⟨w2, cp, h2, k2⟩ := copied (k.kept k1) k1 (Nat.le_refl _) _ (by simp) (made_row ow)
  obtain ⟨e0, e1, e2⟩ := (k.kept k2).cell
  have hk2 := k2.size
  have HS : Hid (SA (w2.alloc (.cells #[.int .i64 (m : Nat), .int .i64 (l : Nat), .slice (some ⟨w.heap.size, 0, none⟩) ws.length ws.length] 94)).drew w2.heap.size w.heap.size m l u) := by
    have hlt := (Array.getElem?_eq_some_iff.1 h2).1
    refine ⟨⟨ws, _, ⟨heap_alloc_new w2 _, ⟨by simp [wsCells], .inr ⟨w.heap.size, ws.length, _, rfl, Nat.zero_le _, ((Kept.refl w2).alloc _).block h2, Nat.le_refl _, by unfold maxLen; omega, by simp [wsCells], by rw [Nat.mul_one, List.take_of_length_le (by simp [wsCells])]⟩⟩, Nat.zero_le _, k.few, k.free, k.long, k.word⟩, hu, hne⟩, hfew⟩
  clear hu ow gw h hi hz hs hby h2 k k1 hne
  go_enter Tryz.func32, Tryz.ntmps32
  go_wp2
  go_region
  go_wp2
  go_ret
  exact ⟨_, _, rfl, HS.out, hk2, Nat.le_refl _, (k2.alloc _).drew⟩
end Go.Proofs.YthlhnjjofefgcaaGreatDoor.S
