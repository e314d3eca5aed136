/- The walks of takeBack and write: new pages are written, rising, flushed, and the state's sector behind them. Conditions: a pager that is not in doubt; new pages may be. -/
import Derived.Test.YthlhnjjofefgcaaGreatDoorGWalkE
import Derived.BigQuiet
namespace Go.Proofs.YthlhnjjofefgcaaGreatDoor.G
open Go.ChangeShapes Go.WideShapes Go.ChangeAt Go.RowKit
open D (Dk Ok DiskAt)
open P (bs supL Sup supP Small)

theorem back_none {B : Nat} {w : World} {p : Nat} {a : Ad} {q : Pq} (h : GA B w p a q) (hd : q.doubt = false) (x : Nat) (r : Int) :
    Calls Tryz.prog 49 #[.pointer (some ⟨p, 0, none⟩), .agg #[.int .u64 (x : Nat), .int .i64 r]] w fun e w' => e = .returned (.int .i64 0) ∧ D.Kept w w' := by
  have k := h.kept ((D.Kept.refl w).alloc (.cells #[.int .u64 (x : Nat), .int .i64 r] 52))
  obtain ⟨c0, c1, c2, c3, c4, c5, c6, c7, c8, c9⟩ := k.cs
  rw [hd] at c9
  go_enter Tryz.func49, Tryz.ntmps49
  go_wp2
  go_ret
  exact ⟨rfl, (D.Kept.refl w).alloc _⟩

/-- The sector of a new page. -/
def secOf (M : Nat → Option Pag) (n : Nat) : ByteArray := bs (P.putL (atK M n).kind (atK M n).num (atK M n).gen (P.un (atK M n).data))

/-- New pages are written, until the power fails. -/
def wrs (M : Nat → Option Pag) : Dk → List Nat → Dk × Int
  | d, [] => (d, 0)
  | d, n :: r => if (d.write (n : Nat) (secOf M n)).2 ≠ 0 then d.write (n : Nat) (secOf M n) else wrs M (d.write (n : Nat) (secOf M n)).1 r

theorem wrs_snoc (M : Nat → Option Pag) (n : Nat) : ∀ (l : List Nat) (d : Dk), (wrs M d l).2 = 0 → wrs M d (l ++ [n]) = (wrs M d l).1.write (n : Nat) (secOf M n)
  | [], d, _ => by
    simp only [List.nil_append, wrs]
    by_cases h : (d.write (n : Nat) (secOf M n)).2 = 0
    · rw [if_neg (by simpa using h), ← h]
    · rw [if_pos h]
  | x :: r, d, h => by
    simp only [List.cons_append, wrs] at h ⊢
    split
    · rename_i h1; rw [if_pos h1] at h; exact absurd h h1
    · rename_i h1
      rw [if_neg h1] at h
      exact wrs_snoc M n r _ h
theorem wrs_stop (M : Nat → Option Pag) (r : List Nat) : ∀ (l : List Nat) (d : Dk), (wrs M d l).2 ≠ 0 → wrs M d (l ++ r) = wrs M d l
  | [], d, h => absurd rfl h
  | x :: l, d, h => by
    simp only [List.cons_append, wrs] at h ⊢
    split
    · rfl
    · rename_i h1
      rw [if_neg h1] at h
      exact wrs_stop M r l _ h
theorem wrs_ok {M : Nat → Option Pag} : ∀ (l : List Nat) {m : Nat} {d : Dk}, Ok m d → Ok (m + l.length) (wrs M d l).1
  | [], m, d, h => h
  | n :: r, m, d, h => by
    unfold wrs
    split
    · exact Ok.mono (write_ok h _ _) (by simp)
    · have := wrs_ok r (write_ok h (n : Nat) (secOf M n)) (M := M)
      exact Ok.mono this (by simp; omega)

/-- All that a commit writes. -/
def wrt (M : Nat → Option Pag) (d : Dk) (l : List Nat) (g : Nat) (r : Int) : Dk × Int × Bool :=
  if (wrs M d l).2 ≠ 0 then ((wrs M d l).1, (wrs M d l).2, false) else
    if (wrs M d l).1.flush.2 ≠ 0 then ((wrs M d l).1.flush.1, (wrs M d l).1.flush.2, false) else
      ((comt (wrs M d l).1.flush.1 g r).1, (comt (wrs M d l).1.flush.1 g r).2, decide ((comt (wrs M d l).1.flush.1 g r).2 ≠ 0))
end Go.Proofs.YthlhnjjofefgcaaGreatDoor.G
