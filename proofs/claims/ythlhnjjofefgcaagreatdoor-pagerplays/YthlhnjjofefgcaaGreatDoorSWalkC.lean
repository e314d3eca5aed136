/- The walks of Use and Free where they change something. Conditions: a place that there is, of no more than 4096; what is free is told right. -/
import Derived.Test.YthlhnjjofefgcaaGreatDoorSWalkB
import Derived.Deep.RegionWith
import Derived.Laws.BitsAllLaws
namespace Go.Proofs.YthlhnjjofefgcaaGreatDoor.S
open Go.ChangeShapes Go.WideShapes Go.ChangeAt Go.RowKit

theorem pow_wrap (n : Nat) : IntKind.u64.wrap ((2 : Int) ^ (n % 64)) = ((2 ^ (n % 64) : Nat) : Int) := by
  have h : 2 ^ (n % 64) < 2 ^ 64 := Nat.pow_lt_pow_right (by decide) (Nat.mod_lt _ (by decide))
  have e : (2 : Int) ^ (n % 64) = ((2 ^ (n % 64) : Nat) : Int) := by push_cast; rfl
  rw [IntKind.wrap_u64, e]
  generalize 2 ^ (n % 64) = z at h ⊢
  omega
theorem pow_lt (n : Nat) : 2 ^ (n % 64) < 18446744073709551616 := by
  have h : 2 ^ (n % 64) < 2 ^ 64 := Nat.pow_lt_pow_right (by decide) (Nat.mod_lt _ (by decide))
  omega
theorem or_eq (x n : Nat) (hx : x < 18446744073709551616) : bits BinOp.or IntKind.u64 (x : Int) (IntKind.u64.wrap ((2 : Int) ^ (n % 64))) = ((x ||| 2 ^ (n % 64) : Nat) : Int) := by
  rw [pow_wrap, bits_or_u64_nat _ _ hx (pow_lt n)]
theorem or_lt (x n : Nat) (hx : x < 18446744073709551616) : x ||| 2 ^ (n % 64) < 18446744073709551616 :=
  Nat.or_lt_two_pow (n := 64) hx (pow_lt n)
theorem andNot_eq (x n : Nat) (hx : x < 18446744073709551616) : bits BinOp.andNot IntKind.u64 (x : Int) (IntKind.u64.wrap ((2 : Int) ^ (n % 64))) = ((x &&& (18446744073709551615 - 2 ^ (n % 64)) : Nat) : Int) := by
  rw [pow_wrap, u64_andNot_nat _ _ hx (pow_lt n)]
theorem andNot_lt (x n : Nat) (hx : x < 18446744073709551616) : x &&& (18446744073709551615 - 2 ^ (n % 64)) < 18446744073709551616 :=
  Nat.lt_of_le_of_lt Nat.and_le_left hx
theorem andNot_bit (x n j : Nat) (hj : j < 64) : (x &&& (18446744073709551615 - 2 ^ (n % 64))).testBit j = (x.testBit j && !decide (j = n % 64)) := by
  have h : 18446744073709551615 - 2 ^ (n % 64) = 2 ^ 64 - (2 ^ (n % 64) + 1) := by have := pow_lt n; omega
  rw [Nat.testBit_and, h, Nat.testBit_two_pow_sub_succ (by have := pow_lt n; omega), Nat.testBit_two_pow]
  by_cases e : j = n % 64
  · subst e; simp
  · have e' : ¬ n % 64 = j := fun q => e q.symm
    simp [hj, e, e']
theorem PAt.drew {B : Nat} {w : World} {b m l : Nat} {ws : List Nat} {v : Value} (h : PAt B w b m l ws v) : PAt B w.drew b m l ws v := h.kept ((Kept.refl w).drew)

set_option maxHeartbeats 2000000 in
set_option maxRecDepth 100000 in
theorem use_new {B : Nat} {w : World} {b m l : Nat} {u : Nat → Bool} (h : SAt B w b m l u) (hB : B ≤ w.heap.size) (n : Nat) (hn : n < m) (hu : u n = false) (hl0 : 0 < l) :
    Calls Tryz.prog 28 #[.pointer (some ⟨b, 0, none⟩), .int .i64 (n : Nat)] w fun e w' => e = .returned (.bool true) ∧ SAt B w' b m (l - 1) (useAt u n) ∧ On B w w' := by
  have hc := used_in h n hn
  rw [hu] at hc
  have hr := reach_walk h hB n hn
  go_enter Tryz.func28, Tryz.ntmps28
  go_wp2_with (first
    | (go_at_call 45; refine hc.mono ?_; rintro e w' ⟨rfl, rfl⟩)
    | (go_at_call 46; refine hr.mono ?_; rintro e w1 ⟨rfl, ⟨ws, v, k, hws, hj⟩, ho1⟩; obtain ⟨g, c, rfl, hg, hcg, hfg⟩ := k.word_at (n / 64) hj; obtain ⟨c0, c1, c2⟩ := k.cell; have hll := k.long; have hmm := k.few))
  have i1 : (0 : Int) ≤ (n : Int) / 64 := by omega
  have i2 : (n : Int) / 64 < (ws.length : Int) := by omega
  have i3 : (0 : Int) ≤ (n : Int) % 64 := by omega
  have i4 : (n : Int) % 64 < 64 := by omega
  have hfb := k.frozen 1
  go_region
  rw [or_eq _ _ (k.word _ (List.getElem_mem hj))]
  have hlt := or_lt ws[n / 64] n (k.word _ (List.getElem_mem hj))
  have HU : Hid (∀ q, useAt u n q = bitOf (ws.set (n / 64) (ws[n / 64] ||| 2 ^ (n % 64))) q) := by
    intro q; rw [bitOf_use _ _ _ hj, useAt, hws]
  generalize ws[n / 64] ||| 2 ^ (n % 64) = x at hlt HU ⊢
  obtain ⟨k2, o2⟩ := k.put (Nat.le_trans hB ho1.size) (n / 64) x hlt
  have k3 := k2.drew
  have o3 := (ho1.trans o2).drew
  generalize (w1.setCell ⟨g, n / 64, none⟩ (.int .u64 (x : Nat))).drew = W at k3 o3 ⊢
  obtain ⟨d0, d1, d2⟩ := k3.cell
  have f1 := k3.frozen 1
  obtain ⟨k4, o4⟩ := k3.count (l - 1) (by have := k3.free; omega)
  have o5 := o3.trans o4
  have el : ((l - 1 : Nat) : Int) = (l : Int) - 1 := by omega
  rw [el] at k4 o5
  have hlm : l ≤ 4096 := Nat.le_trans k3.free hmm
  clear k2 o2 o3 o4 k hws hcg hfg c0 c1 c2 hr hc el h i1 i2 i3 i4 hfb
  go_wp2
  go_ret
  exact ⟨rfl, ⟨_, _, k4, HU.out⟩, o5⟩

set_option maxHeartbeats 2000000 in
set_option maxRecDepth 100000 in
theorem free_old {B : Nat} {w : World} {b m l : Nat} {u : Nat → Bool} (h : SAt B w b m l u) (hB : B ≤ w.heap.size) (n : Nat) (hn : n < m) (hu : u n = true) (hl0 : l < m) :
    Calls Tryz.prog 29 #[.pointer (some ⟨b, 0, none⟩), .int .i64 (n : Nat)] w fun e w' => e = .returned (.bool true) ∧ SAt B w' b m (l + 1) (freeAt u n) ∧ On B w w' := by
  obtain ⟨ws, v, k, hws⟩ := h.out
  have hmm := k.few
  have hll := k.long
  have hj : n / 64 < ws.length := by
    rcases Nat.lt_or_ge (n / 64) ws.length with h | h
    · exact h
    · rw [hws, bitOf, List.getD_eq_getElem?_getD, List.getElem?_eq_none h] at hu; simp at hu
  have hc := bit_walk h n (by omega)
  rw [hu] at hc
  have hr := has_in h n hn
  obtain ⟨g, c, rfl, hg, hcg, hfg⟩ := k.word_at (n / 64) hj
  obtain ⟨c0, c1, c2⟩ := k.cell
  have i1 : (0 : Int) ≤ (n : Int) / 64 := by omega
  have i2 : (n : Int) / 64 < (ws.length : Int) := by omega
  have i3 : (0 : Int) ≤ (n : Int) % 64 := by omega
  have i4 : (n : Int) % 64 < 64 := by omega
  have hfb := k.frozen 1
  have HW : Hid (∀ n, u n = bitOf ws n) := hws
  clear hws h hu
  go_enter Tryz.func29, Tryz.ntmps29
  go_wp2_with (first
    | (go_at_call 47; refine hr.mono ?_; rintro e w' ⟨rfl, rfl⟩)
    | (go_at_call 48; refine hc.mono ?_; rintro e w' ⟨rfl, rfl⟩))
  go_region
  rw [andNot_eq _ _ (k.word _ (List.getElem_mem hj))]
  have hlt := andNot_lt ws[n / 64] n (k.word _ (List.getElem_mem hj))
  have HU : Hid (∀ q, freeAt u n q = bitOf (ws.set (n / 64) (ws[n / 64] &&& (18446744073709551615 - 2 ^ (n % 64)))) q) := by
    intro q; rw [bitOf_free _ _ _ _ hj (fun j hj => andNot_bit _ n j hj), freeAt, HW.out]
  generalize ws[n / 64] &&& (18446744073709551615 - 2 ^ (n % 64)) = x at hlt HU ⊢
  obtain ⟨k2, o2⟩ := k.put hB (n / 64) x hlt
  have k3 := k2.drew
  have o3 := o2.drew
  generalize (World.setCell _ ⟨g, n / 64, none⟩ (.int .u64 (x : Nat))).drew = W at k3 o3 ⊢
  obtain ⟨d0, d1, d2⟩ := k3.cell
  have f1 := k3.frozen 1
  obtain ⟨k4, o4⟩ := k3.count (l + 1) hl0
  have o5 := o3.trans o4
  have el : ((l + 1 : Nat) : Int) = (l : Int) + 1 := by omega
  rw [el] at k4 o5
  clear k2 o2 o3 o4 k HW hcg hfg c0 c1 c2 hr hc el i1 i2 i3 i4 hfb
  go_wp2
  go_ret
  exact ⟨rfl, ⟨_, _, k4, HU.out⟩, o5⟩
end Go.Proofs.YthlhnjjofefgcaaGreatDoor.S
