/- The contracts for the law on cuts: what each call of it answers. Conditions: texts of at most 100 bytes. -/
import Derived.Test.YthlhnjjofefgcaaGreatDoorGCutsP
namespace Go.Proofs.YthlhnjjofefgcaaGreatDoor.G
open Go.ChangeShapes Go.WideShapes Go.ChangeAt Go.RowKit
open D (Dk Ok DiskAt Sec Wr Ct CutsAt FatesAt whole)
open P (bs supL Sup supP Small)

theorem look_new {B : Nat} {w : World} {p m : Nat} {a : Ad} {q : Pq} (h : GA B w p a q) (hB : B ≤ w.heap.size) (ok : Ok m q.disk) (hm : m < 49000) (n : Nat) (h2 : 2 ≤ n) (hn : n < 64) (hx0 : q.fresh n = none) (hf : ¬ q.disk.fails = q.fails) (hfl : Flu q.disk) (hl : Liv q.disk 1)
    {M : Nat → Option Pag} {k : Int} {g : Nat} {s : ByteArray} (hM : M n = some ⟨k, n, g, s⟩) (h1 : 1 ≤ k) (h4 : k ≤ 4) (hs : s.size ≤ 237) (hg : g < 18446744073709551616) (hsec : q.disk.secs[n]? = some ⟨whole (secOf M n), false, 0⟩) :
    ∀ W, D.Kept w W → Calls Tryz.prog 36 #[.pointer (some ⟨p, 0, none⟩), .int .i64 (n : Nat)] W fun e w' => e = .returned (.tuple #[(⟨k, n, g, s⟩ : Pag).val, .int .i64 0]) ∧ GA B w' p a { q with disk := q.disk.begin, fails := q.disk.fails, held := putM (fun _ => none) n ⟨k, n, g, s⟩ } ∧ On B W w' := by
  intro W hW
  obtain ⟨l, hl1, ho, ew, ex, en⟩ := sec_says hM h1 h4 (by omega) hs hg
  have er := read_flu hfl hl hsec
  have := look_disk_new (h.kept hW) (Nat.le_trans hB hW.size) ok hm n h2 hn hx0 hf l hl1 ho (by rw [er, ← ew]; rfl) _ ex en
  rw [er] at this
  exact this

theorem first3 {m : Nat} (h : 4 ≤ m) : S.IsFirst (S.useAt ahead 2) m 2 3 := .inl ⟨3, rfl, by decide, by omega, by decide, fun j h1 h2 => by
  have : j = 2 := by omega
  subst this
  decide⟩

/-- The pager between the two commits, and at the second one. -/
def qA (d : Dk) (s : ByteArray) : Pq := (opened d (1, -1)).add 2 2 s
def qB (d d2 : Dk) (s : ByteArray) : Pq := (qA d s).comd d2 2
def qC (d d2 : Dk) (s t : ByteArray) : Pq := (qB d d2 s).add 3 3 t
def qD (d d2 : Dk) (s t : ByteArray) : Pq := (qC d d2 s t).drop 2

theorem cutsA {B : Nat} {b g p : Nat} {d : Dk} {l : List Ct} (hb : Bg 9 l d) (s : ByteArray) (hs : s.size ≤ 100) (W : World) (h : GAt B W p b g (opened d (1, -1))) (hB : B ≤ W.heap.size) (hL : S.Lds W) :
    Calls Tryz.prog 10 #[.pointer (some ⟨p, 0, none⟩), .int .i64 2, .string s] W fun e w' => e = .returned (.tuple #[.int .i64 2, .int .i64 0]) ∧ GAt B w' p b g (qA d s) ∧ On B W w' :=
  add_ok h hB hL 2 (ahead_first (by show 3 ≤ d.secs.length; rw [hb.len]; decide)) (by show 2 < d.secs.length; rw [hb.len]; decide) 2 s (show 1 < 4611686018427387904 by decide) (by decide) (by decide) (by omega)

theorem cutsB {B : Nat} {b g p : Nat} {d d2 : Dk} {l : List Ct} (hb : Bg 9 l d) (s : ByteArray) (e : wrt (mp2 s) d (keysOf (mp2 s)) 2 2 = (d2, 0, false)) (W : World) (h : GAt B W p b g (qA d s)) (hB : B ≤ W.heap.size) :
    Calls Tryz.prog 13 #[.pointer (some ⟨p, 0, none⟩), .int .i64 2] W fun e w' => e = .returned (.int .i64 0) ∧ GAt B w' p b g (qB d d2 s) ∧ On B W w' := by
  obtain ⟨a, rfl, rfl, k⟩ := h.out
  exact commit_ok k hB hb.ok (by decide) rfl (gen2 s) (show 1 < 4611686018427387904 by decide) 2 sup22 d2 false e rfl

theorem cutsC {B : Nat} {b g p : Nat} {d d2 : Dk} {l : List Ct} (hb : Bg 9 l d) (s t : ByteArray) (ht : t.size ≤ 100) (W : World) (h : GAt B W p b g (qB d d2 s)) (hB : B ≤ W.heap.size) (hL : S.Lds W) :
    Calls Tryz.prog 10 #[.pointer (some ⟨p, 0, none⟩), .int .i64 3, .string t] W fun e w' => e = .returned (.tuple #[.int .i64 3, .int .i64 0]) ∧ GAt B w' p b g (qC d d2 s t) ∧ On B W w' :=
  add_ok h hB hL 3 (first3 (by show 4 ≤ d.secs.length; rw [hb.len]; decide)) (by show 3 < d.secs.length; rw [hb.len]; decide) 3 t (show 1 + 1 < 4611686018427387904 by decide) (by decide) (by decide) (by omega)

theorem cutsD {B : Nat} {b g p : Nat} {d d2 : Dk} {l : List Ct} (hb : Bg 9 l d) (s t : ByteArray) (W : World) (h : GAt B W p b g (qC d d2 s t)) (hB : B ≤ W.heap.size) :
    Calls Tryz.prog 11 #[.pointer (some ⟨p, 0, none⟩), .int .i64 2] W fun e w' => e = .returned (.tuple #[]) ∧ GAt B w' p b g (qD d d2 s t) ∧ On B W w' :=
  drop_walk h hB 2 (Nat.le_refl _) (by show 2 < d.secs.length; rw [hb.len]; decide)

theorem cutsE {B : Nat} {b g p : Nat} {d d2 d3 : Dk} {l : List Ct} {f : Int} {bb : Bool} (s t : ByteArray) (h2 : C2 s l d2) (e : wrt (mp3 t) d2 (keysOf (mp3 t)) 3 3 = (d3, f, bb)) (hf : (f = 0 ∧ bb = false) ∨ ¬ f = 0) (W : World) (h : GAt B W p b g (qD d d2 s t)) (hB : B ≤ W.heap.size) :
    Calls Tryz.prog 13 #[.pointer (some ⟨p, 0, none⟩), .int .i64 3] W fun e w' => e = .returned (.int .i64 f) ∧ DiskAt B w' b g d3 ∧ On B W w' := by
  obtain ⟨a, rfl, rfl, k⟩ := h.out
  rcases hf with ⟨rfl, rfl⟩ | hf
  · refine (commit_ok k hB h2.ok (by decide) rfl (gen3 t) (show 1 + 1 < 4611686018427387904 by decide) 3 sup33 d3 false e rfl).mono ?_
    rintro r w' ⟨rfl, hG, n⟩
    obtain ⟨a', e1, e2, k'⟩ := hG.out
    exact ⟨rfl, by rw [← e1, ← e2]; exact k'.disk, n⟩
  · refine (commit_fail k hB h2.ok (by decide) rfl (gen3 t) (show 1 + 1 < 4611686018427387904 by decide) 3 sup33 d3 f bb e hf).mono ?_
    rintro r w' ⟨rfl, k', n⟩
    exact ⟨rfl, k'.disk, n⟩

theorem cutsF {B : Nat} {b g : Nat} {U : Dk} {r : Nat} {s t : ByteArray} {f : Int} (h : En s t f U r) (W : World) (hD : DiskAt B W b g U) (hB : B ≤ W.heap.size) :
    Calls Tryz.prog 15 #[.pointer (some ⟨b, 0, none⟩)] W fun e w' => ∃ p2, e = .returned (.tuple #[.pointer (some ⟨p2, 0, none⟩), .int .i64 0]) ∧ GAt B w' p2 b g (opened U.begin.begin (r, (r : Int))) ∧ On B W w' := by
  obtain ⟨s0, s1, o0, o1, e0, e1, k0, k1, hp⟩ := h.st
  exact open_flu hD hB h.ok (by decide) h.flu ⟨h.flu.up, by intro c r e; rw [h.cuts] at e; cases e⟩ (by rw [h.len]; decide) (by rw [h.len]; decide) e0 e1 k0 k1 _ hp

/-- The pager that was opened behind it: with its state told, and with pages read. -/
def qM (U : Dk) (r : Nat) : Pq := (opened U.begin.begin (r, (r : Int))).mark r
def qR (U : Dk) (r : Nat) (s : ByteArray) : Pq := { qM U r with disk := U.begin.begin.begin, fails := U.fails, held := putM (fun _ => none) 2 (pg2 s) }
def qS (U : Dk) (r : Nat) (s t : ByteArray) : Pq := { qR U r s with disk := U.begin.begin.begin.begin, held := putM (putM (fun _ => none) 2 (pg2 s)) 3 (pg3 t) }

theorem cutsG {B : Nat} {b g p2 : Nat} {U : Dk} {r : Nat} {s t : ByteArray} {f : Int} (h : En s t f U r) (W : World) (hG : GAt B W p2 b g (opened U.begin.begin (r, (r : Int)))) :
    Calls Tryz.prog 16 #[.pointer (some ⟨p2, 0, none⟩), .int .i64 (r : Nat)] W fun e w' => e = .returned (.bool true) ∧ GAt B w' p2 b g (qM U r) ∧ On B W w' := by
  rcases h.which with ⟨rfl, _⟩ | ⟨rfl, _⟩
  · exact mark_yes hG 2 (by show 2 < U.secs.length; rw [h.len]; decide) rfl
  · exact mark_yes hG 3 (by show 3 < U.secs.length; rw [h.len]; decide) rfl

theorem qM_fresh (U : Dk) (r n : Nat) : (qM U r).fresh n = none := rfl

theorem cutsH {B : Nat} {b g p2 kb : Nat} {U : Dk} {r : Nat} {s t : ByteArray} {f : Int} (hs : s.size ≤ 100) (h : En s t f U r) (W : World) (hG : GAt B W p2 b g (qM U r)) (hB : B ≤ W.heap.size) (hkb : W.heap[kb]? = some (.cells #[.int .i64 2] 3)) :
    Calls Tryz.prog 21 #[.pointer (some ⟨p2, 0, none⟩), .int .i64 2, .slice (some ⟨kb, 0, none⟩) 1 1] W fun e w' => e = .returned (.tuple #[.agg #[.int .i64 2, .int .i64 2, .int .u64 2, .string s], .int .i64 0]) ∧ GAt B w' p2 b g (qR U r s) ∧ On B W w' := by
  obtain ⟨a, rfl, rfl, k⟩ := hG.out
  have lv : Liv (qM U r).disk 1 := ⟨h.flu.up, by intro c r' e; rw [show (qM U r).disk.cuts = [] from h.cuts] at e; cases e⟩
  have ok : Ok 42 (qM U r).disk := D.begin_ok (D.begin_ok h.ok)
  have fl : Flu (qM U r).disk := begin_flu (begin_flu h.flu)
  have hsec : (qM U r).disk.secs[2]? = some ⟨whole (secOf (mp2 s) 2), false, 0⟩ := h.s2
  have F : ∀ W', D.Kept W W' → Calls Tryz.prog 36 #[.pointer (some ⟨p2, 0, none⟩), .int .i64 ((2 : Nat) : Int)] W' fun e w' => e = .returned (.tuple #[(pg2 s).val, .int .i64 0]) ∧ GA B w' p2 a (qR U r s) ∧ On B W' w' := by
    by_cases hU : U.fails = 0
    · have := look_kept k hB ok (by decide) 2 (by decide) (by decide) rfl (show 0 = U.fails by rw [hU]) rfl fl lv (M := mp2 s) (k := 2) (g := 2) (s := s) rfl (by decide) (by decide) (by omega) (by decide) hsec
      have e : qR U r s = { qM U r with disk := (qM U r).disk.begin, held := putM (qM U r).held 2 ⟨2, (2 : Nat), 2, s⟩ } := by unfold qR; rw [hU]; rfl
      rw [e]
      exact this
    · exact look_new k hB ok (by decide) 2 (by decide) (by decide) rfl (show ¬ U.fails = 0 from hU) fl lv (M := mp2 s) (k := 2) (g := 2) (s := s) rfl (by decide) (by decide) (by omega) (by decide) hsec
  refine (read_yes (n := 2) hB hkb _ F rfl).mono ?_
  rintro e w' ⟨rfl, g', n⟩
  exact ⟨rfl, ⟨a, rfl, rfl, g'⟩, n⟩

theorem cutsI {B : Nat} {b g p2 kb : Nat} {U : Dk} {s t : ByteArray} {f : Int} (ht : t.size ≤ 100) (h : En s t f U 3) (W : World) (hG : GAt B W p2 b g (qR U 3 s)) (hB : B ≤ W.heap.size) (hkb : W.heap[kb]? = some (.cells #[.int .i64 3] 3)) :
    Calls Tryz.prog 21 #[.pointer (some ⟨p2, 0, none⟩), .int .i64 3, .slice (some ⟨kb, 0, none⟩) 1 1] W fun e w' => e = .returned (.tuple #[.agg #[.int .i64 3, .int .i64 3, .int .u64 3, .string t], .int .i64 0]) ∧ GAt B w' p2 b g (qS U 3 s t) ∧ On B W w' := by
  obtain ⟨a, rfl, rfl, k⟩ := hG.out
  have lv : Liv (qR U 3 s).disk 1 := ⟨h.flu.up, by intro c r' e; rw [show (qR U 3 s).disk.cuts = [] from h.cuts] at e; cases e⟩
  have ok : Ok 43 (qR U 3 s).disk := D.begin_ok (D.begin_ok (D.begin_ok h.ok))
  have fl : Flu (qR U 3 s).disk := begin_flu (begin_flu (begin_flu h.flu))
  have hsec : (qR U 3 s).disk.secs[3]? = some ⟨whole (secOf (mp3 t) 3), false, 0⟩ := by
    rcases h.which with ⟨h3, _⟩ | ⟨_, h3, _⟩
    · exact absurd h3 (by decide)
    · exact h3
  have F := look_kept k hB ok (by decide) 3 (by decide) (by decide) rfl (show U.fails = U.fails from rfl) rfl fl lv (M := mp3 t) (k := 3) (g := 3) (s := t) rfl (by decide) (by decide) (by omega) (by decide) hsec
  refine (read_yes (n := 3) hB hkb _ F rfl).mono ?_
  rintro e w' ⟨rfl, g', n⟩
  exact ⟨rfl, ⟨a, rfl, rfl, g'⟩, n⟩
end Go.Proofs.YthlhnjjofefgcaaGreatDoor.G
