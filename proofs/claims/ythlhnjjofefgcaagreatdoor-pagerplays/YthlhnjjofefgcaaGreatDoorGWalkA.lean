/- The walks of settle, commit and Format, in plain words over a disk. Conditions: a disk that is whole, of no more than 50000 acts. -/
import Derived.Test.YthlhnjjofefgcaaGreatDoorGMem
import Derived.Test.YthlhnjjofefgcaaGreatDoorPWalkS
import Derived.Deep.RegionHeld3
namespace Go.Proofs.YthlhnjjofefgcaaGreatDoor.G
open Go.ChangeShapes Go.WideShapes Go.ChangeAt Go.RowKit
open D (Dk Ok DiskAt)
open P (bs supL Sup supP Small)

theorem Ok.mono {m n : Nat} {d : Dk} (h : Ok m d) (hm : m ≤ n) : Ok n d := ⟨h.secs, h.last, h.waits, Nat.le_trans h.acts hm, h.since, h.fails⟩
theorem act_one {m : Nat} {d : Dk} (h : D.Ok' m d) : Ok (m + 1) d.act.1 := D.act_ok' h
theorem write_ok {m : Nat} {d : Dk} (h : Ok m d) (n : Int) (s : ByteArray) : Ok (m + 1) (d.write n s).1 := by
  unfold Dk.write
  split
  · exact Ok.mono h (Nat.le_succ _)
  · split
    · exact Ok.mono h (Nat.le_succ _)
    · split
      · exact Ok.mono h (Nat.le_succ _)
      · rename_i h1 h2 h3
        exact act_one (D.wait_ok h _ (by show n.toNat < _; omega))
theorem read_ok' {m : Nat} {d : Dk} (h : Ok m d) (n : Int) : Ok (m + 1) (d.read n).1 := by
  unfold Dk.read
  split
  · exact Ok.mono h (Nat.le_succ _)
  · split
    · exact Ok.mono h (Nat.le_succ _)
    · split
      · exact act_one h.to'
      · exact act_one h.to'
theorem flush_ok' {m : Nat} {d : Dk} (h : Ok m d) : Ok (m + 1) d.flush.1 := by
  unfold Dk.flush
  split
  · exact Ok.mono h (Nat.le_succ _)
  · split
    · exact act_one h.to'
    · exact D.good_ok (act_one h.to')

/-- A sector is written, and flushed. -/
def setl (d : Dk) (n : Int) (s : ByteArray) : Dk × Int := if (d.write n s).2 ≠ 0 then d.write n s else (d.write n s).1.flush
theorem setl_ok {m : Nat} {d : Dk} (h : Ok m d) (n : Int) (s : ByteArray) : Ok (m + 2) (setl d n s).1 := by
  unfold setl
  split
  · exact Ok.mono (write_ok h n s) (Nat.le_succ _)
  · exact flush_ok' (write_ok h n s)

theorem settle_walk {B : Nat} {w : World} {b g m : Nat} {d : Dk} (h : DiskAt B w b g d) (hB : B ≤ w.heap.size) (ok : Ok m d) (hm : m < 50000) (n : Int) (s : ByteArray) :
    Calls Tryz.prog 42 #[.pointer (some ⟨b, 0, none⟩), .int .i64 n, .string s] w fun e w' => e = .returned (.int .i64 (setl d n s).2) ∧ DiskAt B w' b g (setl d n s).1 ∧ D.On B w w' := by
  have hw := D.write_walk h hB ok (by omega) n s
  have hok := write_ok ok n s
  unfold setl
  generalize d.write n s = r at hw hok ⊢
  obtain ⟨d1, e1⟩ := r
  by_cases he : e1 = 0
  · subst he
    have hf : ∀ w1, DiskAt B w1 b g d1 → B ≤ w1.heap.size → Calls Tryz.prog 53 #[.pointer (some ⟨b, 0, none⟩)] w1 fun e w' => e = .returned (.int .i64 d1.flush.2) ∧ DiskAt B w' b g d1.flush.1 ∧ D.On B w1 w' := fun w1 h1 hB1 => D.flush_walk h1 hB1 hok (by omega)
    rw [if_neg (by simp)]
    generalize d1.flush = f at hf ⊢
    obtain ⟨d2, e2⟩ := f
    go_enter Tryz.func42, Tryz.ntmps42
    go_wp2_with (first
      | (go_at_call 41; (with_reducible refine hw.mono ?_); rintro e w1 ⟨rfl, h1, o1⟩; have h53 := hf w1 h1 (Nat.le_trans hB o1.size))
      | (go_at_call 53; (with_reducible refine h53.mono ?_); rintro e w2 ⟨rfl, h2, o2⟩))
    go_ret
    exact ⟨rfl, h2, o1.trans o2⟩
  · rw [if_pos he]
    have hne : (e1 != 0) = true := by simpa using he
    go_enter Tryz.func42, Tryz.ntmps42
    go_wp2_with (first
      | (go_at_call 41; (with_reducible refine hw.mono ?_); rintro e w1 ⟨rfl, h1, o1⟩))
    go_ret
    exact ⟨rfl, h1, o1⟩

/-- A state is committed. -/
def comt (d : Dk) (g : Nat) (r : Int) : Dk × Int := setl d ((g % 2 : Nat) : Int) (bs (supL g r))
theorem comt_ok {m : Nat} {d : Dk} (h : Ok m d) (g : Nat) (r : Int) : Ok (m + 2) (comt d g r).1 := setl_ok h _ _

set_option maxHeartbeats 1000000 in
theorem commit_walk {B : Nat} {w : World} {b g m : Nat} {d : Dk} (h : DiskAt B w b g d) (hB : B ≤ w.heap.size) (ok : Ok m d) (hm : m < 50000) (x : Nat) (r : Int) :
    Calls Tryz.prog 43 #[.pointer (some ⟨b, 0, none⟩), .agg #[.int .u64 (x : Nat), .int .i64 r]] w fun e w' => e = .returned (.int .i64 (comt d x r).2) ∧ DiskAt B w' b g (comt d x r).1 ∧ D.On B w w' := by
  have f1 : ∀ W, Calls Tryz.prog 65 #[.int .u64 (x : Nat)] W fun e w' => e = .returned (.int .i64 ((x % 2 : Nat) : Int)) ∧ w' = W := fun W => P.where_walk x W
  have f2 : ∀ W, Calls Tryz.prog 66 #[.agg #[.int .u64 (x : Nat), .int .i64 r]] W fun e w' => e = .returned (.string (bs (supL x r))) ∧ P.Kept W w' := fun W => P.sput_walk x r W
  have f3 : ∀ W, DiskAt B W b g d → B ≤ W.heap.size → Calls Tryz.prog 42 #[.pointer (some ⟨b, 0, none⟩), .int .i64 ((x % 2 : Nat) : Int), .string (bs (supL x r))] W fun e w' => e = .returned (.int .i64 (comt d x r).2) ∧ DiskAt B w' b g (comt d x r).1 ∧ D.On B W w' := fun W h1 hB1 => settle_walk h1 hB1 ok hm _ _
  generalize comt d x r = z at f3 ⊢
  obtain ⟨t, ht⟩ : ∃ t : Int, ((x % 2 : Nat) : Int) = t := ⟨_, rfl⟩
  obtain ⟨S, hS⟩ : ∃ S : ByteArray, bs (supL x r) = S := ⟨_, rfl⟩
  rw [hS] at f2 f3
  rw [ht] at f1 f3
  clear ht hS
  have k0 : D.Kept w (w.alloc (.cells #[.int .u64 (x : Nat), .int .i64 r] 52)) := (D.Kept.refl w).alloc _
  go_enter Tryz.func43, Tryz.ntmps43
  go_wp2
  go_region_with (first
    | (go_at_call 65; (with_reducible refine (f1 _).mono ?_); rintro e w1 ⟨rfl, rfl⟩)
    | (go_at_call 66; (with_reducible refine (f2 _).mono ?_); rintro e w1 ⟨rfl, k1⟩; have k2 : D.Kept w w1 := D.Kept.trans (by first | exact k0 | exact k0.drew) ⟨k1.out⟩; have hd1 := k2.dk h; have hb1 := Nat.le_trans hB k2.size)
    | (go_at_call 42; (with_reducible refine (f3 _ (by first | exact hd1 | exact hd1) hb1).mono ?_); rintro e w2 ⟨rfl, h2, o2⟩))
  all_goals go_wp2
  all_goals go_ret
  all_goals exact ⟨rfl, h2, (k2.on hB).trans o2⟩

/-- A disk is formatted. -/
def fmtd (d : Dk) : Dk × Int :=
  if (d.write 0 ⟨#[]⟩).2 ≠ 0 then d.write 0 ⟨#[]⟩ else
    if (setl (d.write 0 ⟨#[]⟩).1 1 ⟨#[]⟩).2 ≠ 0 then setl (d.write 0 ⟨#[]⟩).1 1 ⟨#[]⟩ else comt (setl (d.write 0 ⟨#[]⟩).1 1 ⟨#[]⟩).1 1 (-1)
theorem fmtd_ok {m : Nat} {d : Dk} (h : Ok m d) : Ok (m + 5) (fmtd d).1 := by
  unfold fmtd
  split
  · exact Ok.mono (write_ok h _ _) (by omega)
  · split
    · exact Ok.mono (setl_ok (write_ok h _ _) _ _) (by omega)
    · exact comt_ok (setl_ok (write_ok h _ _) _ _) _ _

set_option maxHeartbeats 1000000 in
theorem format_walk {B : Nat} {w : World} {b g m : Nat} {d : Dk} (h : DiskAt B w b g d) (hB : B ≤ w.heap.size) (ok : Ok m d) (hm : m < 49000) :
    Calls Tryz.prog 24 #[.pointer (some ⟨b, 0, none⟩)] w fun e w' => e = .returned (.int .i64 (fmtd d).2) ∧ DiskAt B w' b g (fmtd d).1 ∧ D.On B w w' := by
  have f1 := D.write_walk h hB ok (by omega) 0 ⟨#[]⟩
  have ok1 := write_ok ok 0 ⟨#[]⟩
  have f2 : ∀ W, DiskAt B W b g (d.write 0 ⟨#[]⟩).1 → B ≤ W.heap.size → Calls Tryz.prog 42 #[.pointer (some ⟨b, 0, none⟩), .int .i64 1, .string ⟨#[]⟩] W fun e w' => e = .returned (.int .i64 (setl (d.write 0 ⟨#[]⟩).1 1 ⟨#[]⟩).2) ∧ DiskAt B w' b g (setl (d.write 0 ⟨#[]⟩).1 1 ⟨#[]⟩).1 ∧ D.On B W w' := fun W h1 hB1 => settle_walk h1 hB1 ok1 (by omega) 1 ⟨#[]⟩
  have ok2 := setl_ok ok1 1 ⟨#[]⟩
  have f3 : ∀ W, DiskAt B W b g (setl (d.write 0 ⟨#[]⟩).1 1 ⟨#[]⟩).1 → B ≤ W.heap.size → Calls Tryz.prog 43 #[.pointer (some ⟨b, 0, none⟩), .agg #[.int .u64 1, .int .i64 (-1)]] W fun e w' => e = .returned (.int .i64 (comt (setl (d.write 0 ⟨#[]⟩).1 1 ⟨#[]⟩).1 1 (-1)).2) ∧ DiskAt B w' b g (comt (setl (d.write 0 ⟨#[]⟩).1 1 ⟨#[]⟩).1 1 (-1)).1 ∧ D.On B W w' := fun W h1 hB1 => commit_walk h1 hB1 ok2 (by omega) 1 (-1)
  unfold fmtd
  generalize comt (setl (d.write 0 ⟨#[]⟩).1 1 ⟨#[]⟩).1 1 (-1) = z3 at f3 ⊢
  generalize setl (d.write 0 ⟨#[]⟩).1 1 ⟨#[]⟩ = z2 at f2 f3 ⊢
  generalize d.write 0 ⟨#[]⟩ = z1 at f1 f2 ⊢
  obtain ⟨d1, e1⟩ := z1
  obtain ⟨d2, e2⟩ := z2
  obtain ⟨d3, e3⟩ := z3
  clear ok1 ok2
  by_cases h1 : e1 = 0
  · subst h1
    rw [if_neg (by simp)]
    by_cases h2 : e2 = 0
    · subst h2
      rw [if_neg (by simp)]
      go_enter Tryz.func24, Tryz.ntmps24
      go_wp2_with (first
        | (go_at_call 41; (with_reducible refine f1.mono ?_); rintro e w1 ⟨rfl, k1, o1⟩; have b1 := Nat.le_trans hB o1.size; have g2 := f2 w1 k1 b1)
        | (go_at_call 42; (with_reducible refine g2.mono ?_); rintro e w2 ⟨rfl, k2, o2⟩; have b2 := Nat.le_trans b1 o2.size)
        | (go_at_call 43; (with_reducible refine (f3 w2 k2 b2).mono ?_); rintro e w3 ⟨rfl, k3, o3⟩))
      go_ret
      exact ⟨rfl, k3, (o1.trans o2).trans o3⟩
    · rw [if_pos h2]
      have hne : (e2 != 0) = true := by simpa using h2
      go_enter Tryz.func24, Tryz.ntmps24
      go_wp2_with (first
        | (go_at_call 41; (with_reducible refine f1.mono ?_); rintro e w1 ⟨rfl, k1, o1⟩; have b1 := Nat.le_trans hB o1.size; have g2 := f2 w1 k1 b1)
        | (go_at_call 42; (with_reducible refine g2.mono ?_); rintro e w2 ⟨rfl, k2, o2⟩))
      go_ret
      exact ⟨rfl, k2, o1.trans o2⟩
  · rw [if_pos h1]
    have hne : (e1 != 0) = true := by simpa using h1
    go_enter Tryz.func24, Tryz.ntmps24
    go_wp2_with (first
      | (go_at_call 41; (with_reducible refine f1.mono ?_); rintro e w1 ⟨rfl, k1, o1⟩))
    go_ret
    exact ⟨rfl, k1, o1⟩
end Go.Proofs.YthlhnjjofefgcaaGreatDoor.G
