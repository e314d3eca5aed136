/- The walk of the statements' begun: a disk that is formatted, and its pager. Conditions: 2 to 64 sectors; no more than 5 cuts, none in the first seven acts. -/
import Derived.Test.YthlhnjjofefgcaaGreatDoorGDisk
import Derived.Test.YthlhnjjofefgcaaGreatDoorGWalkL
namespace Go.Proofs.YthlhnjjofefgcaaGreatDoor.G
open Go.ChangeShapes Go.WideShapes Go.ChangeAt Go.RowKit
open D (Dk Ok DiskAt Sec Wr Ct CutsAt whole)
open P (bs supL Sup supP Small)

theorem open_flu {B : Nat} {w : World} {b g m : Nat} {d : Dk} (h : DiskAt B w b g d) (hB : B ≤ w.heap.size) (ok : Ok m d) (hm : m < 49000) (hf : Flu d) (hl : Liv d 2) (h2 : 2 ≤ d.secs.length) (h64 : d.secs.length ≤ 64) {s0 s1 : Sec} (e0 : d.secs[0]? = some s0) (e1 : d.secs[1]? = some s1)
    {o0 o1 : Option (Nat × Int)} (k0 : Sd (sayS s0).1 0 o0) (k1 : Sd (sayS s1).1 1 o1) (x : Nat × Int) (hp : pick o0 o1 = some x) :
    Calls Tryz.prog 15 #[.pointer (some ⟨b, 0, none⟩)] w fun e w' => ∃ p, e = .returned (.tuple #[.pointer (some ⟨p, 0, none⟩), .int .i64 0]) ∧ GAt B w' p b g (opened d.begin.begin x) ∧ On B w w' := by
  have r0 : d.read 0 = (d.begin, sayS s0) := read_flu hf (hl.mono (by omega)) e0
  have r1 : d.begin.read 1 = (d.begin.begin, sayS s1) := read_flu (begin_flu hf) (begin_live hl) e1
  have t : ∀ s : Sec, (sayS s).2 = 0 ∨ (sayS s).2 = 41 := by intro s; unfold sayS; cases s.torn <;> simp
  have f := committed_yes h hB ok hm (o0 := o0) (o1 := o1) (by rw [r0]; exact t _) (by rw [r0]; show (d.begin.read 1).2.2 = 0 ∨ _; rw [r1]; exact t _) (by rw [r0]; exact k0) (by rw [r0]; show Sd (d.begin.read 1).2.1 1 o1; rw [r1]; exact k1) x hp
  rw [r0] at f
  dsimp only at f
  rw [r1] at f
  exact open_A hB (show 2 ≤ d.begin.begin.secs.length from h2) (show d.begin.begin.secs.length ≤ 64 from h64) x.1 x.2 f

theorem new_flu (n : Nat) (l : List Ct) : Flu (Dk.new n l) := ⟨rfl, fun i s hs => by
  have : s = ⟨whole ⟨#[]⟩, false, 0⟩ := List.eq_of_mem_replicate (List.mem_of_getElem? hs)
  rw [this], rfl⟩

/-- A disk that was formatted and opened. -/
structure Bg (n : Nat) (l : List Ct) (d : Dk) : Prop where
  flu : Flu d
  len : d.secs.length = n
  s0 : d.secs[0]? = some ⟨whole ⟨#[]⟩, false, 0⟩
  s1 : d.secs[1]? = some ⟨bs (supP 1 (-1)), false, 0⟩
  cuts : d.cuts = l
  fails : d.fails = 0
  since : d.since = 7
  ok : Ok 7 d

theorem fmt_new (n : Nat) (h2 : 2 ≤ n) (l : List Ct) (hl : Liv (Dk.new n l) 5) : ∃ d, fmtd (Dk.new n l) = (d, 0) ∧ Flu d ∧ d.secs.length = n ∧ d.secs[0]? = some ⟨whole ⟨#[]⟩, false, 0⟩ ∧ d.secs[1]? = some ⟨bs (supP 1 (-1)), false, 0⟩ ∧ d.cuts = l ∧ d.fails = 0 ∧ d.since = 5 := by
  have e0 : (Dk.new n l).secs.length = n := by simp [Dk.new]
  obtain ⟨d1, d', e, w1, w2⟩ := fmtd_live (new_flu n l) hl (by rw [e0]; exact h2)
  refine ⟨d', e, w2.flu, by rw [w2.len, w1.len, e0], ?_, w2.own ⟨1, bs (supP 1 (-1))⟩ (by simp), by rw [w2.cuts, w1.cuts]; rfl, by rw [w2.fails, w1.fails]; rfl, by rw [w2.since, w1.since]; rfl⟩
  rw [w2.oth 0 (by intro x hx; simp at hx; subst hx; decide)]
  exact w1.own ⟨0, whole ⟨#[]⟩⟩ (by simp)

set_option maxRecDepth 100000 in
set_option maxHeartbeats 1000000 in
theorem begun_walk {B : Nat} {w : World} {v : Value} {l : List Ct} (n : Nat) (h2 : 2 ≤ n) (h64 : n ≤ 64) (h : CutsAt B w v l) (hB : B ≤ w.heap.size) (hl : l.length ≤ 5) (hfl : ∀ c ∈ l, c.fates.length * 8 ≤ 140737488355328) (hv : Liv (Dk.new n l) 7) :
    Calls Tryz.prog 7 #[.int .i64 (n : Nat), v] w fun e w' => ∃ b g p d, e = .returned (.tuple #[.pointer (some ⟨b, 0, none⟩), .pointer (some ⟨p, 0, none⟩), .int .i64 0]) ∧ Bg n l d ∧ GAt w.heap.size w' p b g (opened d (1, -1)) ∧ D.Kept w w' := by
  have f1 := D.new_walk n (by omega) h hB hl hfl
  obtain ⟨d1, ef, fl, ln, s0, s1, cu, fa, si⟩ := fmt_new n h2 l (hv.mono (by omega))
  have ok1 : Ok 5 d1 := by have := fmtd_ok (D.new_ok n l); rw [ef] at this; exact this
  have lv1 : Liv d1 2 := ⟨fl.up, fun c r hc => by have := hv.far c r (by rw [← cu, hc] : l = c :: r); rw [si]; exact this⟩
  have HB : Hid (Bg n l d1.begin.begin) := ⟨begin_flu (begin_flu fl), ln, s0, s1, cu, fa, by show d1.since + 1 + 1 = 7; rw [si], D.begin_ok (D.begin_ok ok1)⟩
  have f2 : ∀ W b g, DiskAt w.heap.size W b g (Dk.new n l) → w.heap.size ≤ W.heap.size → Calls Tryz.prog 24 #[.pointer (some ⟨b, 0, none⟩)] W fun e w' => e = .returned (.int .i64 0) ∧ DiskAt w.heap.size w' b g d1 ∧ D.On w.heap.size W w' := fun W b g k kB => by
    have := format_walk k kB (D.new_ok n l) (by omega)
    rw [ef] at this
    exact this
  have f3 : ∀ W b g, DiskAt w.heap.size W b g d1 → w.heap.size ≤ W.heap.size → Calls Tryz.prog 15 #[.pointer (some ⟨b, 0, none⟩)] W fun e w' => ∃ p, e = .returned (.tuple #[.pointer (some ⟨p, 0, none⟩), .int .i64 0]) ∧ GAt w.heap.size w' p b g (opened d1.begin.begin (1, -1)) ∧ On w.heap.size W w' := fun W b g k kB =>
    open_flu k kB ok1 (by omega) fl lv1 (by omega) (by omega) s0 s1 (o0 := none) (o1 := some (1, -1)) (sd_zeros 0) (sd_state sup11 rfl) (1, -1) rfl
  clear ef fl ln s0 s1 cu fa si ok1 lv1 hv h hfl
  generalize Dk.new n l = dn at f1 f2
  go_enter Tryz.func7, Tryz.ntmps7
  go_wp2_with (first
    | (go_at_call 23; (with_reducible refine f1.mono ?_); rintro e w1 ⟨b, g, rfl, k1, K1⟩; have g2 := f2 w1 b g k1 K1.size)
    | (go_at_call 24; (with_reducible refine g2.mono ?_); rintro e w2 ⟨rfl, k2, o2⟩; have B2 := Nat.le_trans K1.size o2.size; have g3 := f3 w2 b g k2 B2)
    | (go_at_call 15; (with_reducible refine g3.mono ?_); rintro e w3 ⟨p, rfl, k3, n3⟩))
  go_ret3
  exact ⟨b, g, p, _, rfl, HB.out, k3, ⟨(K1.out.trans o2.below).trans n3.below⟩⟩
end Go.Proofs.YthlhnjjofefgcaaGreatDoor.G
