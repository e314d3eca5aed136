/- The walks of slices.Clone and slices.Sort at ints; how Of makes parts. Conditions: those that each row names. -/
import Derived.Sort.OwnSortedInts
import Derived.Lib.SmallJoins
import Derived.Test.YtanccfbbaeocaaaLSh
import Derived.Test.YtanccfbbaeocaaaLFb
namespace Go.Proofs.Ytanccfbbaeocaaa.Bt
open Go.RowKit Go.Shelf

/-- How Of makes parts of numbers: one number more. -/
def og (G : List Pt) (z : Int) : List Pt :=
  if 0 ≤ z ∧ z < 1048576 then
    match G.getLast? with
    | some p => if p.1 = (z / 64).toNat then G.dropLast ++ [(p.1, p.2 ||| 2 ^ (z % 64).toNat)] else G ++ [((z / 64).toNat, 2 ^ (z % 64).toNat)]
    | none => [((z / 64).toNat, 2 ^ (z % 64).toNat)]
  else G
def ofs (zs : List Int) : List Pt := zs.foldl og []
theorem ofs_take {zs : List Int} {i : Nat} {z : Int} (h : zs[i]? = some z) : ofs (zs.take (i + 1)) = og (ofs (zs.take i)) z := by
  rw [List.take_add_one, h]; simp [ofs]
theorem og_no {G : List Pt} {z : Int} (h : ¬ (0 ≤ z ∧ z < 1048576)) : og G z = G := if_neg h
theorem og_nil {m : Nat} (h : m < 1048576) : og [] (m : Int) = [] ++ [(m / 64, 2 ^ (m % 64))] := by
  unfold og; rw [if_pos (by omega), List.getLast?_nil]
  simp only [List.nil_append]
  rw [show ((m : Int) / 64).toNat = m / 64 by omega, show ((m : Int) % 64).toNat = m % 64 by omega]
theorem og_old {G : List Pt} {m a x : Nat} (h : m < 1048576) (e : a = m / 64) : og (G ++ [(a, x)]) (m : Int) = G ++ [(a, x ||| 2 ^ (m % 64))] := by
  unfold og; rw [if_pos (by omega), List.getLast?_concat]
  simp only
  rw [if_pos (by omega), List.dropLast_concat, show ((m : Int) % 64).toNat = m % 64 by omega]
theorem og_new {G : List Pt} {m a x : Nat} (h : m < 1048576) (e : a ≠ m / 64) : og (G ++ [(a, x)]) (m : Int) = (G ++ [(a, x)]) ++ [(m / 64, 2 ^ (m % 64))] := by
  unfold og; rw [if_pos (by omega), List.getLast?_concat]
  simp only
  rw [if_neg (by omega), show ((m : Int) / 64).toNat = m / 64 by omega, show ((m : Int) % 64).toNat = m % 64 by omega]
theorem ofs_one (z : Int) : ofs [z] = one z := by
  unfold ofs one og; simp
theorem pw_wrap (r : Nat) (h : r < 64) : IntKind.u64.wrap ((2 : Int) ^ r) = ((2 ^ r : Nat) : Int) := by
  have h : 2 ^ r < 2 ^ 64 := Nat.pow_lt_pow_right (by decide) h
  have e : (2 : Int) ^ r = ((2 ^ r : Nat) : Int) := by push_cast; rfl
  rw [e, IntKind.wrap_u64]
  generalize 2 ^ r = z at h ⊢
  omega
theorem pw_lt (r : Nat) (h : r < 64) : 2 ^ r < 18446744073709551616 := Nat.pow_lt_pow_right (n := 64) (by decide) h

theorem ic_one (zs : List Int) : ∀ u ∈ ic zs, u.oneCell' = true := by
  intro u hu; simp [ic] at hu; obtain ⟨z, _, rfl⟩ := hu; rfl
set_option maxHeartbeats 2000000 in
set_option maxRecDepth 100000 in
theorem clone_walk {w : World} {b off n c : Nat} {zs : List Int} (h : Il w (some ⟨b, off, none⟩) n c zs) (hn : n ≤ 100000) (h0 : 0 < n) :
    Calls Try.prog 32 #[.slice (some ⟨b, off, none⟩) n c] w fun e w' => ∃ g c', e = .returned (.slice (some ⟨g, 0, none⟩) n c') ∧ Own w' w.heap.size 3 1 (some ⟨g, 0, none⟩) n c' (ic zs) ∧ Kept w w' := by
  have q22 : ∀ (w : World) (a : Option Addr) (n c n' c' : Nat), (binOp .eql 22 (.slice a n c) (.slice none n' c')).run Try.prog w = .ok (.bool a.isNone) w := fun w a n c n' c' => Lib.run_eql_slice_nil w _ _ a n c n' c' Try.underlying22
  obtain ⟨i0, hi, hz0, hz1, hz2⟩ := info_parts info3
  have A : Hid (∀ j u, (ic zs)[j]? = some u → w.cell? ⟨b, off + j, none⟩ = some u) := by
    rcases h.rw.out with h1 | ⟨b', off', e, hc⟩
    · exact absurd h1 (by omega)
    · cases e; exact hc
  have hl : (ic zs).length = n * 1 := h.rw.len
  have h1 := ic_one zs
  clear h
  generalize ic zs = cs at *
  have a : Calls Try.prog 32 #[.slice (some ⟨b, off, none⟩) n c] w fun e w' => ∃ v', e = .returned v' ∧ w'.ownsRow w.heap.size 3 1 v' n cs ∧ Kept w w' := by
    go_enter Try.func32, Try.ntmps32
    go_wp2_with (at_builtin; refine wpList_append_own _ rfl _ _ 22 rfl w.heap.size 3 i0 (.int .i64 0) 1 8 Try.underlying22 hi hz0 hz1 hz2 rfl (by decide) _ _ _ rfl (World.ownsRow_made w #[] 0 (Nat.le_refl _) (Nat.zero_le _) (by simp)) ⟨b, off, none⟩ n c cs rfl ?qc1 ?qc2 ?qc3 ?qc4 ?qc5 ?qc6 ?_)
    case qc1 => exact hl
    case qc2 =>
      intro j u hj
      rw [Addr.add_lit]
      exact Lib.cell?_alloc_some _ (A.out j u hj)
    case qc3 => exact h1
    case qc4 => rw [Nat.zero_add]; unfold maxLen; omega
    case qc5 => rw [Nat.zero_add]; omega
    case qc6 => simp
    intro v' w1 hown hgrow hnil
    go_wp2
    go_ret
    refine ⟨v', rfl, by simpa using hown, ⟨((Below.refl _ w).alloc (Nat.le_refl _) _).grown hgrow (by simp) (by intro k hk; simp [Value.ownBlock] at hk; omega)⟩⟩
  refine a.mono ?_
  rintro e w' ⟨v', rfl, ho, hk⟩
  rcases ho.2 with ⟨rfl, h2⟩ | ⟨g, cap, cur, rfl, h2⟩
  · omega
  · exact ⟨_, _, rfl, ⟨ho⟩, hk⟩
/-- Numbers in order. -/
def srt (zs : List Int) : List Int := zs.mergeSort fun x y => decide (x ≤ y)
theorem srt_len (zs : List Int) : (srt zs).length = zs.length := List.length_mergeSort zs
theorem srt_one (z : Int) : srt [z] = [z] := by simp [srt]
theorem sort_walk {w : World} {B g n c : Nat} {zs : List Int} (h : Own w B 3 1 (some ⟨g, 0, none⟩) n c (ic zs)) (hn : n ≤ 100000) :
    Calls Try.prog 33 #[.slice (some ⟨g, 0, none⟩) n c] w fun e w' => e = .returned (.tuple #[]) ∧ Own w' B 3 1 (some ⟨g, 0, none⟩) n c (ic (srt zs)) ∧ w.grownBy w' (some g) ∧ B ≤ g := by
  have hl : zs.length = n := by have := h.out.1; rw [ic_length] at this; omega
  rcases h.out.2 with ⟨h1, _⟩ | ⟨g', cap, cur, h1, h2, h3, h4, h5, h6, h7⟩
  · cases h1
  · cases h1
    have hH := holds_of_blockI (ss := zs) h3 (by rw [hl]; simpa [ic] using h7)
    have a := AnyM.slices_Sort_int Try.sortA g 0 c zs w hH (Array.getElem?_eq_some_iff.1 h3).1 (by omega)
    rw [hl] at a
    refine a.mono ?_
    rintro e w' ⟨rfl, m, os, rfl⟩
    refine ⟨rfl, ⟨?_⟩, grownBy_sortedI _, h2⟩
    have := ownsRow_sortedI (n := m) (os := os) (ss := zs) (ts := srt zs) (srt_len zs) h2 h3 (by omega) h5 h6
    rw [hl] at this
    exact this
end Go.Proofs.Ytanccfbbaeocaaa.Bt
