/- The walks of wire.Num and of the reference's Num, Key and Fixed: each returns the bytes that the plain functions say; all memory that was there is as it was. Conditions: a number is one of 64 bits. -/
import Derived.Test.YtpefmoddglpbfaaNWPure
import Derived.WalkSpells
import Derived.Deep.LoopGhost
import Derived.Below
namespace Go.Proofs.Ytpefmoddglpbfaa.N
open Go.ChangeShapes Go.WideShapes Go.ChangeAt Go.RowKit

/-- All blocks that were there are as they were. -/
structure Kept (w w' : World) : Prop where
  out : Below w.heap.size w w'

theorem Kept.refl (w : World) : Kept w w := ⟨Below.refl _ _⟩
theorem Kept.trans {a b c : World} (h : Kept a b) (k : Kept b c) : Kept a c := ⟨h.out.trans (k.out.mono h.out.size)⟩
theorem Kept.drew {a b : World} (h : Kept a b) : Kept a b.drew := ⟨h.out.drew⟩
theorem Kept.alloc {a b : World} (h : Kept a b) (o : Obj) : Kept a (b.alloc o) := ⟨h.out.alloc h.out.size o⟩
theorem Kept.block {w w' : World} (h : Kept w w') {k : Nat} {o : Obj} (hk : w.heap[k]? = some o) : w'.heap[k]? = some o :=
  (h.out.block k (Array.getElem?_eq_some_iff.1 hk).1).trans hk
theorem Kept.size {w w' : World} (h : Kept w w') : w.heap.size ≤ w'.heap.size := h.out.size

theorem info5 : (Try.prog.info? 5).map (fun i => (i.zero, i.size, i.bytes)) = some (some (.int .u8 0), 1, 1) := by kernel_rfl

theorem below_own {w wx w1 : World} {v : Value} {n : Nat} {xs : List Value} {e : Nat} (hk : Kept w wx) (hown : wx.ownsRow w.heap.size e 1 v n xs) {W : World} (hW : Kept wx W) (hg : W.grownBy w1 v.ownBlock) : Kept w w1 :=
  ⟨((hk.trans hW).out).grown hg (hk.trans hW).size (fun k h => (hown.lt k h).1)⟩

theorem owns_shape {w : World} {base e size : Nat} {v : Value} {n : Nat} {xs : List Value} (h : w.ownsRow base e size v n xs) : ∃ p cap, v = .slice p n cap := by
  rcases h.2 with ⟨rfl, rfl⟩ | ⟨g, cap, cur, rfl, _⟩
  · exact ⟨_, _, rfl⟩
  · exact ⟨_, _, rfl⟩

/-- Bytes as cells. -/
def cellsOf (l : List Nat) : List Value := l.map fun x : Nat => Value.int .u8 (Int.ofNat x)

theorem strOf (l : List Nat) : strOfNums (l.map fun x : Nat => (x : Int)) = bs l := by
  unfold strOfNums bs
  simp [List.map_map, Function.comp_def]

/-- The text of bytes of one's own. -/
theorem own_text {w : World} {base : Nat} {v : Value} {l : List Nat} (h : w.ownsRow base 5 1 v l.length (cellsOf l)) :
    (convert 48 9 v).run Try.prog w = .ok (.string (bs l)) w := by
  rcases h.2 with ⟨rfl, hn⟩ | ⟨g, cap, cur, rfl, _⟩
  · have : l = [] := by simpa [cellsOf] using hn
    subst this
    rw [run_convert_bytes_nil w 48 5 Try.underlying48 Try.underlying5 _ _ 9 Try.underlying9]
    rfl
  · rw [run_convert_bytes_arg w 48 5 Try.underlying48 Try.underlying5 g 0 l.length cap (l.map fun x : Nat => (x : Int)) (by simp) (fun i hi => ?_) 9 Try.underlying9, strOf]
    have := h.cellAt i (by omega)
    rw [Nat.zero_add, this]
    simp [cellsOf, List.getD, hi]

/-- The text of one byte. -/
theorem one_text (w : World) (x : Int) (h0 : 0 ≤ x) (t : TypeId) :
    (convert 48 9 (.slice (some ⟨w.heap.size, 0, none⟩) 1 1)).run Try.prog (w.alloc (.cells #[.int .u8 x] t)) = .ok (.string (bs [x.toNat])) (w.alloc (.cells #[.int .u8 x] t)) := by
  rw [run_convert_bytes_arg _ 48 5 Try.underlying48 Try.underlying5 w.heap.size 0 1 1 [x] rfl (fun i hi => ?_) 9 Try.underlying9]
  · have : strOfNums [x] = bs [x.toNat] := by rw [← strOf]; simp; congr 1; simp; omega
    rw [this]
  · obtain rfl : i = 0 := by omega
    simp

theorem one_cell (w : World) (x : Value) (t : TypeId) : ∀ (j : Nat) (u : Value), [x][j]? = some u → (w.alloc (.cells #[x] t)).cell? ((⟨w.heap.size, 0, none⟩ : Addr).add j) = some u := by
  intro j u hj
  match j, hj with
  | 0, hj =>
    simp at hj; subst hj
    simp only [Addr.add, if_true]
    rw [World.cell?_alloc_at _ _ _ _ (by simp)]
    rfl

theorem one_one (k : IntKind) (x : Int) : ∀ u ∈ [Value.int k x], u.oneCell' = true := by
  intro u hu; simp at hu; subst hu; rfl

theorem or128 (x : Nat) (h : x < 256) : bits .or .u8 (x : Int) 128 = ((128 + x % 128 : Nat) : Int) := by
  have key : ∀ y : Fin 256, bits .or .u8 ((y.val : Nat) : Int) 128 = ((128 + y.val % 128 : Nat) : Int) := by decide +kernel
  exact key ⟨x, h⟩

set_option maxRecDepth 100000 in
set_option maxHeartbeats 1000000 in
theorem num_walk (n0 : Nat) (hn0 : n0 < 18446744073709551616) (w : World) :
    Calls Try.prog 15 #[.int .u64 n0] w fun e w' => e = .returned (.string (bs (numL n0))) ∧ Kept w w' := by
  obtain ⟨i0, hi, hz0, hz1, hz2⟩ := info_parts info5
  have H10 := numL_ten n0 hn0
  go_enter Try.func15, Try.ntmps15
  go_wp2
  go_loopg [0, 3] n0 (fun g nv v wx => ∃ done n, numL n0 = done ++ numL n ∧ n = g ∧ n < 18446744073709551616 ∧ nv = .int .u64 (n : Nat) ∧ wx.ownsRow w.heap.size 5 1 v done.length (cellsOf done) ∧ Kept w wx)
  case atStart => exact ⟨[], n0, rfl, rfl, hn0, rfl, World.ownsRow_nil _ _ _ _, Kept.refl _⟩
  case round =>
    obtain ⟨done, n, hl, hg, hn, rfl, hown, hk⟩ := hrel
    obtain ⟨p, cap, rfl⟩ := owns_shape hown
    have hd : done.length ≤ 10 := by rw [hl] at H10; simp at H10; omega
    have HL : Hid (numL n0 = done ++ numL n) := hl
    have HG : Hid (n = gk) := hg
    have HO : Hid (wr.ownsRow w.heap.size 5 1 (.slice p done.length cap) done.length (cellsOf done)) := hown
    clear hl hg hown H10
    by_cases h : n < 128
    · go_wp2_with (at_builtin; refine wpList_append_own _ rfl _ _ 48 rfl w.heap.size 5 i0 (.int .u8 0) 1 1 Try.underlying48 hi hz0 hz1 hz2 rfl (by decide) (.slice p done.length cap) done.length (cellsOf done) rfl ?c0 _ 1 1 [.int .u8 (n : Int)] rfl rfl ?c1 ?c2 ?c3 ?c4 ?c5 ?_)
      case c0 => exact HO.out.alloc _
      case c1 => exact one_cell _ _ _
      case c2 => exact one_one _ _
      case c3 => unfold maxLen; omega
      case c4 => omega
      case c5 => have := hk.size; simp; omega
      intro v' w1 hown1 hgrow _
      have hk1 : Kept w w1 := below_own hk HO.out ((Kept.refl wr).alloc _) hgrow
      have tx : (convert 48 9 v').run Try.prog w1 = .ok (.string (bs (done ++ [n]))) w1 := own_text (by simpa [cellsOf] using hown1)
      clear hgrow hi hz0 hz1 hz2 hown1
      go_wp2
      go_ret
      refine ⟨?_, hk1⟩
      rw [HL.out, numL_last h]; rfl
    · have e1 : bits .or .u8 ((n : Int) % 256) 128 = ((128 + n % 128 : Nat) : Int) := by
        have := or128 (n % 256) (by omega)
        rw [Nat.mod_mod_of_dvd n (by decide : 128 ∣ 256)] at this
        exact this
      go_wp2_with (at_builtin; refine wpList_append_own _ rfl _ _ 48 rfl w.heap.size 5 i0 (.int .u8 0) 1 1 Try.underlying48 hi hz0 hz1 hz2 rfl (by decide) (.slice p done.length cap) done.length (cellsOf done) rfl ?c0 _ 1 1 [.int .u8 ((128 + n % 128 : Nat) : Int)] rfl rfl ?c1 ?c2 ?c3 ?c4 ?c5 ?_)
      case c0 => exact HO.out.alloc _
      case c1 => exact one_cell _ _ _
      case c2 => exact one_one _ _
      case c3 => unfold maxLen; omega
      case c4 => omega
      case c5 => have := hk.size; simp; omega
      intro v' w1 hown1 hgrow _
      have hk1 : Kept w w1 := below_own hk HO.out ((Kept.refl wr).alloc _) hgrow
      clear hgrow hi hz0 hz1 hz2
      have H1 : Hid (w1.ownsRow w.heap.size 5 1 v' (done.length + 1) (cellsOf done ++ [.int .u8 ((128 + n % 128 : Nat) : Int)])) := hown1
      clear hown1
      go_wp2
      go_roundg (n / 128)
      case measure => have := HG.out; omega
      case rel =>
        refine ⟨done ++ [128 + n % 128], n / 128, by rw [HL.out, numL_more h]; simp, rfl, by omega, by go_num, ?_, hk1⟩
        have := H1.out
        simpa [cellsOf] using this
end Go.Proofs.Ytpefmoddglpbfaa.N
