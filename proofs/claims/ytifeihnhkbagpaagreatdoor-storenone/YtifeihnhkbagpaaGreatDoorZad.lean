/- Joined: SWalkC SWalkD. What is proved of the functions beneath StoreNone. Conditions: those that each row names. -/
import Derived.Test.YtifeihnhkbagpaaGreatDoorZac
import Derived.Deep.RegionWith
import Derived.Laws.BitsAllLaws
namespace Go.Proofs.YtifeihnhkbagpaaGreatDoor.S
open Go.ChangeShapes Go.WideShapes Go.ChangeAt Go.RowKit

theorem pow_wrap (n : Nat) : IntKind.u64.wrap ((2 : Int) ^ (n % 64)) = ((2 ^ (n % 64) : Nat) : Int) := by
  have h : 2 ^ (n % 64) < 2 ^ 64 := Nat.pow_lt_pow_right (by decide) (Nat.mod_lt _ (by decide))
  have e : (2 : Int) ^ (n % 64) = ((2 ^ (n % 64) : Nat) : Int) := by push_cast; rfl
  rw [IntKind.wrap_u64, e]
  generalize 2 ^ (n % 64) = z at h ⊢
  omega
theorem pow_lt (n : Nat) : 2 ^ (n % 64) < 18446744073709551616 := by
  have h : 2 ^ (n % 64) < 2 ^ 64 := Nat.pow_lt_pow_right (by decide) (Nat.mod_lt _ (by decide))
  omega
theorem or_eq (x n : Nat) (hx : x < 18446744073709551616) : bits BinOp.or IntKind.u64 (x : Int) (IntKind.u64.wrap ((2 : Int) ^ (n % 64))) = ((x ||| 2 ^ (n % 64) : Nat) : Int) := by
  rw [pow_wrap, bits_or_u64_nat _ _ hx (pow_lt n)]
theorem or_lt (x n : Nat) (hx : x < 18446744073709551616) : x ||| 2 ^ (n % 64) < 18446744073709551616 :=
  Nat.or_lt_two_pow (n := 64) hx (pow_lt n)
theorem andNot_eq (x n : Nat) (hx : x < 18446744073709551616) : bits BinOp.andNot IntKind.u64 (x : Int) (IntKind.u64.wrap ((2 : Int) ^ (n % 64))) = ((x &&& (18446744073709551615 - 2 ^ (n % 64)) : Nat) : Int) := by
  rw [pow_wrap, u64_andNot_nat _ _ hx (pow_lt n)]
theorem andNot_lt (x n : Nat) (hx : x < 18446744073709551616) : x &&& (18446744073709551615 - 2 ^ (n % 64)) < 18446744073709551616 :=
  Nat.lt_of_le_of_lt Nat.and_le_left hx
theorem andNot_bit (x n j : Nat) (hj : j < 64) : (x &&& (18446744073709551615 - 2 ^ (n % 64))).testBit j = (x.testBit j && !decide (j = n % 64)) := by
  have h : 18446744073709551615 - 2 ^ (n % 64) = 2 ^ 64 - (2 ^ (n % 64) + 1) := by have := pow_lt n; omega
  rw [Nat.testBit_and, h, Nat.testBit_two_pow_sub_succ (by have := pow_lt n; omega), Nat.testBit_two_pow]
  by_cases e : j = n % 64
  · subst e; simp
  · have e' : ¬ n % 64 = j := fun q => e q.symm
    simp [hj, e, e']
theorem PAt.drew {B : Nat} {w : World} {b m l : Nat} {ws : List Nat} {v : Value} (h : PAt B w b m l ws v) : PAt B w.drew b m l ws v := h.kept ((Kept.refl w).drew)

set_option maxHeartbeats 2000000 in
set_option maxRecDepth 100000 in
theorem use_new {B : Nat} {w : World} {b m l : Nat} {u : Nat → Bool} (h : SAt B w b m l u) (hB : B ≤ w.heap.size) (n : Nat) (hn : n < m) (hu : u n = false) (hl0 : 0 < l) :
    Calls Tryz.prog 73 #[.pointer (some ⟨b, 0, none⟩), .int .i64 (n : Nat)] w fun e w' => e = .returned (.bool true) ∧ SAt B w' b m (l - 1) (useAt u n) ∧ On B w w' := by
  have hc := used_in h n hn
  rw [hu] at hc
  have hr := reach_walk h hB n hn
  go_enter Tryz.func73, Tryz.ntmps73
  go_wp2_with (first
    | (go_at_call 102; refine hc.mono ?_; rintro e w' ⟨rfl, rfl⟩)
    | (go_at_call 103; refine hr.mono ?_; rintro e w1 ⟨rfl, ⟨ws, v, k, hws, hj⟩, ho1⟩; obtain ⟨g, c, rfl, hg, hcg, hfg⟩ := k.word_at (n / 64) hj; obtain ⟨c0, c1, c2⟩ := k.cell; have hll := k.long; have hmm := k.few))
  have i1 : (0 : Int) ≤ (n : Int) / 64 := by omega
  have i2 : (n : Int) / 64 < (ws.length : Int) := by omega
  have i3 : (0 : Int) ≤ (n : Int) % 64 := by omega
  have i4 : (n : Int) % 64 < 64 := by omega
  have hfb := k.frozen 1
  go_region
  rw [or_eq _ _ (k.word _ (List.getElem_mem hj))]
  have hlt := or_lt ws[n / 64] n (k.word _ (List.getElem_mem hj))
  have HU : Hid (∀ q, useAt u n q = bitOf (ws.set (n / 64) (ws[n / 64] ||| 2 ^ (n % 64))) q) := by
    intro q; rw [bitOf_use _ _ _ hj, useAt, hws]
  generalize ws[n / 64] ||| 2 ^ (n % 64) = x at hlt HU ⊢
  obtain ⟨k2, o2⟩ := k.put (Nat.le_trans hB ho1.size) (n / 64) x hlt
  have k3 := k2.drew
  have o3 := (ho1.trans o2).drew
  generalize (w1.setCell ⟨g, n / 64, none⟩ (.int .u64 (x : Nat))).drew = W at k3 o3 ⊢
  obtain ⟨d0, d1, d2⟩ := k3.cell
  have f1 := k3.frozen 1
  obtain ⟨k4, o4⟩ := k3.count (l - 1) (by have := k3.free; omega)
  have o5 := o3.trans o4
  have el : ((l - 1 : Nat) : Int) = (l : Int) - 1 := by omega
  rw [el] at k4 o5
  have hlm : l ≤ 4096 := Nat.le_trans k3.free hmm
  clear k2 o2 o3 o4 k hws hcg hfg c0 c1 c2 hr hc el h i1 i2 i3 i4 hfb
  go_wp2
  go_ret
  exact ⟨rfl, ⟨_, _, k4, HU.out⟩, o5⟩


set_option maxHeartbeats 1000000 in
theorem tz_core (x k idx : Nat) (w : World) (hx0 : ((x : Int) == 0) = false)
    (key : IntKind.u64.wrap (bits BinOp.and IntKind.u64 (x : Int) (IntKind.u64.wrap (-(x : Int))) * 285870213051353865) / 288230376151711744 = (idx : Int))
    (hi : idx < 64) (hk : k < 64) (hcell : w.cell? ⟨1, idx, none⟩ = some (.int .u8 k)) :
    Calls Tryz.prog 230 #[.int .u64 x] w fun e w' => e = .returned (.int .i64 k) ∧ w' = w := by
  go_enter Tryz.func230, Tryz.ntmps230
  go_wp2_with (simp only [key])
  go_ret
  exact ⟨rfl, rfl⟩

theorem tz_walk (x : Nat) (hx : x < 18446744073709551616) (hx0 : x ≠ 0) (w : World) (hL : Lds w) :
    Calls Tryz.prog 230 #[.int .u64 x] w fun e w' => e = .returned (.int .i64 (Lib.ctz 64 x : Nat)) ∧ w' = w := by
  obtain ⟨hlow, hk⟩ := Lib.lowest_bit 64 x hx0 hx
  obtain ⟨hi, htab⟩ := Lib.deBruijn64_at _ hk
  have hcell := hL.tab _ hi
  rw [htab] at hcell
  exact tz_core x _ _ w (by simp; omega) (tz64_key x _ hx hx0 hlow) hi hk hcell

theorem ctz_bits (x : Nat) (hx : x < 18446744073709551616) (hx0 : x ≠ 0) : Lib.ctz 64 x < 64 ∧ x.testBit (Lib.ctz 64 x) = true ∧ ∀ i, i < Lib.ctz 64 x → x.testBit i = false := by
  unfold Lib.ctz
  rw [if_neg hx0]
  obtain ⟨m, hm, hc⟩ := Lib.ctzFrom_spec 64 x (by omega) hx
  generalize Lib.ctzFrom 64 x = c at hm hc ⊢
  subst hm
  refine ⟨hc, ?_, fun i hi => ?_⟩
  · rw [Nat.testBit_two_pow_mul]
    simp
  · rw [Nat.testBit_two_pow_mul]
    simp; omega

def restOf (x s : Nat) : Nat := (18446744073709551615 - x) / 2 ^ s
theorem rest_lt (x s : Nat) : restOf x s < 18446744073709551616 := Nat.lt_of_le_of_lt (Nat.div_le_self _ _) (by omega)
theorem rest_bit (x s i : Nat) (hx : x < 18446744073709551616) : (restOf x s).testBit i = (decide (s + i < 64) && !x.testBit (s + i)) := by
  unfold restOf
  rw [Nat.testBit_div_two_pow, show 18446744073709551615 - x = 2 ^ 64 - (x + 1) by omega, Nat.testBit_two_pow_sub_succ (by omega), Nat.add_comm i s]

structure FreeFrom (u : Nat → Bool) (n r : Nat) : Prop where
  le : n ≤ r
  free : u r = false
  used : ∀ j, n ≤ j → j < r → u j = true

theorem rest_none (ws : List Nat) (n : Nat) (hj : n / 64 < ws.length) (hw : ws[n / 64] < 18446744073709551616) (h0 : restOf ws[n / 64] (n % 64) = 0) : ∀ j, n ≤ j → j < n + (64 - n % 64) → bitOf ws j = true := by
  intro j h1 h2
  have e : j / 64 = n / 64 := by omega
  have hb := rest_bit ws[n / 64] (n % 64) (j % 64 - n % 64) hw
  rw [h0, Nat.zero_testBit, show n % 64 + (j % 64 - n % 64) = j % 64 by omega] at hb
  unfold bitOf
  rw [e, List.getD_eq_getElem?_getD, List.getElem?_eq_getElem hj, Option.getD_some]
  have h3 : j % 64 < 64 := by omega
  simpa [h3] using hb.symm
theorem rest_some (ws : List Nat) (n : Nat) (hj : n / 64 < ws.length) (hw : ws[n / 64] < 18446744073709551616) (h0 : restOf ws[n / 64] (n % 64) ≠ 0) : FreeFrom (bitOf ws) n (n + Lib.ctz 64 (restOf ws[n / 64] (n % 64))) ∧ Lib.ctz 64 (restOf ws[n / 64] (n % 64)) < 64 := by
  obtain ⟨hc, h1, h2⟩ := ctz_bits _ (rest_lt _ _) h0
  have hat : ∀ i, n % 64 + i < 64 → bitOf ws (n + i) = !(restOf ws[n / 64] (n % 64)).testBit i := by
    intro i hi
    rw [rest_bit _ _ _ hw]
    unfold bitOf
    rw [show (n + i) / 64 = n / 64 by omega, show (n + i) % 64 = n % 64 + i by omega, List.getD_eq_getElem?_getD, List.getElem?_eq_getElem hj, Option.getD_some]
    simp [hi]
  have hlt : n % 64 + Lib.ctz 64 (restOf ws[n / 64] (n % 64)) < 64 := by
    rw [rest_bit _ _ _ hw] at h1
    simp at h1
    exact h1.1
  refine ⟨⟨by omega, by rw [hat _ hlt, h1]; rfl, fun j hj1 hj2 => ?_⟩, hc⟩
  obtain ⟨i, rfl⟩ : ∃ i, j = n + i := ⟨j - n, by omega⟩
  rw [hat i (by omega), h2 i (by omega)]
  rfl
theorem rest_eq (x s : Nat) (hx : x < 18446744073709551616) : bits BinOp.xor IntKind.u64 (if IntKind.u64.signed = true then -1 else IntKind.u64.max) (x : Int) / 2 ^ s = ((restOf x s : Nat) : Int) := by
  have e0 : (if IntKind.u64.signed = true then (-1 : Int) else IntKind.u64.max) = ((18446744073709551615 : Nat) : Int) := by decide
  have e1 : 18446744073709551615 ^^^ x = 18446744073709551615 - x := by
    apply Nat.eq_of_testBit_eq
    intro i
    rw [Nat.testBit_xor, show 18446744073709551615 - x = 2 ^ 64 - (x + 1) by omega, Nat.testBit_two_pow_sub_succ (by omega), show 18446744073709551615 = 2 ^ 64 - 1 by decide, Nat.testBit_two_pow_sub_one]
    by_cases h : i < 64
    · simp [h]
    · have : x.testBit i = false := Nat.testBit_lt_two_pow (Nat.lt_of_lt_of_le hx (by rw [show 18446744073709551616 = 2 ^ 64 by decide]; exact Nat.pow_le_pow_right (by decide) (by omega)))
      simp [h, this]
  rw [e0, bits_xor_u64_nat _ _ (by decide) hx, e1]
  unfold restOf
  push_cast
  rfl
theorem free_behind (ws : List Nat) (n : Nat) (hj : ws.length ≤ n / 64) : bitOf ws n = false := by
  rw [bitOf, List.getD_eq_getElem?_getD, List.getElem?_eq_none hj]; simp

set_option maxHeartbeats 2000000 in
set_option maxRecDepth 100000 in
theorem from_walk {B : Nat} {w : World} {b m l : Nat} {u : Nat → Bool} (h : SAt B w b m l u) (hL : Lds w) (n : Nat) (hn : n < 9223372036854775808) :
    Calls Tryz.prog 203 #[.pointer (some ⟨b, 0, none⟩), .int .i64 (n : Nat)] w fun e w' => ∃ r : Nat, e = .returned (.int .i64 (r : Nat)) ∧ FreeFrom u n r ∧ w' = w := by
  obtain ⟨ws, v, k, hu⟩ := h.out
  obtain rfl : u = bitOf ws := funext hu
  obtain ⟨c0, c1, c2⟩ := k.cell
  have hll := k.long
  obtain ⟨p, c, rfl⟩ := k.form
  go_enter Tryz.func203, Tryz.ntmps203
  go_wp2
  go_loop [1] (fun t => ∃ q : Nat, n ≤ q ∧ (q ≤ n ∨ q ≤ 4096) ∧ (∀ j, n ≤ j → j < q → bitOf ws j = true) ∧ t = .int .i64 (q : Nat)) (fun t => 4096 - (intOf t).toNat)
  case atStart => exact ⟨n, Nat.le_refl _, .inl (Nat.le_refl _), fun j h1 h2 => by omega, rfl⟩
  case round =>
    obtain ⟨q, hq1, hq2, hq3, rfl⟩ := hrel
    have HQ : Hid (∀ j, n ≤ j → j < q → bitOf ws j = true) := hq3
    clear hq3
    by_cases hj : q / 64 < ws.length
    · obtain ⟨g, c', e, hg, hcg, hfg⟩ := k.word_at (q / 64) hj
      injection e with e1 e2 e3
      subst e1
      subst e3
      have hw := k.word _ (List.getElem_mem hj)
      have hsm := rest_some ws q hj hw
      have hno := rest_none ws q hj hw
      have hlt := rest_lt ws[q / 64] (q % 64)
      have hq5 : q < 4096 := by omega
      have hX := rest_eq ws[q / 64] (q % 64) hw
      generalize restOf ws[q / 64] (q % 64) = r at hsm hno hlt hX
      have HS : Hid (r ≠ 0 → FreeFrom (bitOf ws) q (q + Lib.ctz 64 r) ∧ Lib.ctz 64 r < 64) := hsm
      have HN : Hid (r = 0 → ∀ j, q ≤ j → j < q + (64 - q % 64) → bitOf ws j = true) := hno
      clear hsm hno
      by_cases r0 : r = 0
      · subst r0
        have hX' : bits BinOp.xor IntKind.u64 (if IntKind.u64.signed = true then -1 else IntKind.u64.max) (ws[q / 64] : Int) / 2 ^ (q % 64) = 0 := hX
        clear hX
        go_wp2
        go_round
        case rel =>
          refine ⟨q + (64 - q % 64), by omega, by omega, fun j h1 h2 => ?_, by go_num⟩
          by_cases hjq : j < q
          · exact HQ.out j h1 hjq
          · exact HN.out rfl j (by omega) h2
        case measure => simp [intOf]; omega
      · have hne : ((r : Int) != 0) = true := by simp; exact r0
        have htz := tz_walk r hlt r0 w hL
        obtain ⟨hfr, hc64⟩ := HS.out r0
        generalize Lib.ctz 64 r = z at htz hfr hc64
        have HF : Hid (FreeFrom (bitOf ws) q (q + z)) := hfr
        clear hfr HS HN
        go_wp2_with (go_at_call 230; refine htz.mono ?_; rintro e w' ⟨rfl, rfl⟩)
        go_ret
        refine ⟨q + z, by go_num, ⟨by omega, HF.out.free, fun j h1 h2 => ?_⟩, rfl⟩
        by_cases hjq : j < q
        · exact HQ.out j h1 hjq
        · exact HF.out.used j (by omega) h2
    · go_wp2
      go_ret
      exact ⟨q, rfl, ⟨hq1, free_behind ws q (by omega), HQ.out⟩, rfl⟩
end Go.Proofs.YtifeihnhkbagpaaGreatDoor.S