/- The walk of the statement's val: what a key has. No condition. -/
import Derived.Test.YtgcfollelefmcaaNC
namespace Go.Proofs.Ytgcfollelefmcaa
open Go.ChangeShapes Go.WideShapes Go.ChangeAt Go.RowKit

theorem lowbits (k m : Nat) (hk : k ≤ 14) (h1 : (BitVec.ofInt 64 (m : Int)).toNat = 2 ^ k - 1) (a : Int) : ∃ x : Nat, x < 2 ^ k ∧ bits .and .i64 a m = (x : Int) := by
  have key : (BitVec.ofInt 64 a &&& BitVec.ofInt 64 m).toNat = (a % ((2 ^ 64 : Nat) : Int)).toNat % 2 ^ k := by
    rw [BitVec.toNat_and, BitVec.toNat_ofInt, h1, Nat.and_two_pow_sub_one_eq_mod]
  have hp : 2 ^ k ≤ 2 ^ 14 := Nat.pow_le_pow_right (by decide) hk
  have hl := Nat.mod_lt (a % ((2 ^ 64 : Nat) : Int)).toNat (Nat.two_pow_pos k)
  refine ⟨(a % ((2 ^ 64 : Nat) : Int)).toNat % 2 ^ k, hl, ?_⟩
  show IntKind.i64.wrap ((BitVec.ofInt 64 a &&& BitVec.ofInt 64 m).toNat : Nat) = _
  rw [key, IntKind.wrap_i64]
  omega

/-- A piece of the list that is handed in. -/
structure Ki where
  s : ByteArray
  v : ByteArray
  pg : Int
  ln : Int

/-- The first bytes of a text. -/
def cut (s : ByteArray) (m : Int) : ByteArray := s.extract 0 (min (s.size : Int) m).toNat

theorem cut_size (s : ByteArray) (m : Nat) : (cut s m).size ≤ m := by
  unfold cut
  rw [ByteArray.size_extract]
  omega

def kval (x : Ki) : Vl := if bits .and .i64 x.pg 1 = 0 then ⟨cut x.v 48, -1, 0⟩ else ⟨⟨#[]⟩, bits .and .i64 x.pg 16383, 49 + bits .and .i64 x.ln 16383⟩
def kkey (x : Ki) : ByteArray := cut x.s 64

/-- A value that may be. -/
def Okv (v : Vl) : Prop := (v.p = -1 ∧ v.l = 0 ∧ v.d.size ≤ 48) ∨ (v.d = ⟨#[]⟩ ∧ ∃ p l : Nat, v.p = (p : Int) ∧ p ≤ 16383 ∧ v.l = (l : Int) ∧ 49 ≤ l ∧ l ≤ 16432)

theorem kval_ok (x : Ki) : Okv (kval x) := by
  unfold kval
  split
  · exact .inl ⟨rfl, rfl, cut_size x.v 48⟩
  · obtain ⟨p, hp, ep⟩ := lowbits 14 16383 (by decide) (by decide) x.pg
    obtain ⟨l, hl, el⟩ := lowbits 14 16383 (by decide) (by decide) x.ln
    have ep' : bits .and .i64 x.pg 16383 = (p : Int) := ep
    have el' : bits .and .i64 x.ln 16383 = (l : Int) := el
    refine .inr ⟨rfl, p, 49 + l, ?_, by omega, ?_, by omega, by omega⟩
    · show bits .and .i64 x.pg 16383 = _; exact ep'
    · show 49 + bits .and .i64 x.ln 16383 = _; rw [el']; omega
theorem kkey_size (x : Ki) : (kkey x).size ≤ 64 := cut_size x.s 64

set_option maxRecDepth 100000 in
theorem val_walk (x : Ki) (w : World) :
    Calls Try.prog 18 #[.agg #[.string x.s, .string x.v, .int .i64 x.pg, .int .i64 x.ln]] w fun e w' => e = .returned (.agg #[.string (kval x).d, .int .i64 (kval x).p, .int .i64 (kval x).l]) ∧ Kept w w' := by
  obtain ⟨s, v, pg, ln⟩ := x
  have hK : Kept w ((w.alloc (.cells #[.string s, .string v, .int .i64 pg, .int .i64 ln] 45)).alloc (.cells #[.string ⟨#[]⟩, .int .i64 0, .int .i64 0] 49)) := ((Kept.refl w).alloc _).alloc _
  by_cases h : bits .and .i64 pg 1 = 0
  · have e1 : kval ⟨s, v, pg, ln⟩ = ⟨cut v 48, -1, 0⟩ := by unfold kval; rw [if_pos h]
    rw [e1]
    have hc : v.extract 0 (min (v.size : Int) 48).toNat = cut v 48 := rfl
    generalize cut v 48 = d at *
    clear e1
    go_enter Try.func18, Try.ntmps18
    go_wp2
    refine bodyPost_ret (v := .agg #[.string d, .int .i64 (-1), .int .i64 0]) ?_ rfl ⟨rfl, ?_⟩
    · exact results_cell_row (p := 2) rfl _ _ (w.heap.size + 1) 49 #[.string d, .int .i64 (-1), .int .i64 0] (0, 0) _ rfl (by rw [← size_alloc w]; exact heap_alloc_new _ _) Try.underlying49 rfl size49
    · exact ((Kept.refl w).alloc _).alloc _
  · have e1 : kval ⟨s, v, pg, ln⟩ = ⟨⟨#[]⟩, bits .and .i64 pg 16383, 49 + bits .and .i64 ln 16383⟩ := by unfold kval; rw [if_neg h]
    rw [e1]
    obtain ⟨p, hp, ep⟩ := lowbits 14 16383 (by decide) (by decide) pg
    obtain ⟨l, hl, el⟩ := lowbits 14 16383 (by decide) (by decide) ln
    have ep' : bits .and .i64 pg 16383 = (p : Int) := ep
    have el' : bits .and .i64 ln 16383 = (l : Int) := el
    rw [ep', el']
    have u1 : IntKind.i64.wrap (49 + (l : Int)) = 49 + (l : Int) := by rw [IntKind.wrap_i64]; omega
    clear ep el e1
    go_enter Try.func18, Try.ntmps18
    go_wp2
    refine bodyPost_ret (v := .agg #[.string ⟨#[]⟩, .int .i64 (p : Nat), .int .i64 (49 + (l : Int))]) ?_ rfl ⟨rfl, ?_⟩
    · exact results_cell_row (p := 2) rfl _ _ (w.heap.size + 1) 49 #[.string ⟨#[]⟩, .int .i64 (p : Nat), .int .i64 (49 + (l : Int))] (0, 0) _ rfl (by rw [← size_alloc w]; exact heap_alloc_new _ _) Try.underlying49 rfl size49
    · exact ((Kept.refl w).alloc _).alloc _
end Go.Proofs.Ytgcfollelefmcaa
