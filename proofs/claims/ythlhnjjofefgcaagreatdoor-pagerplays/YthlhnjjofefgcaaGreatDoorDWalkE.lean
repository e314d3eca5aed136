/- A disk: what it is in plain words, and in memory; the walks of New, and of what only looks at a disk: Sectors, Acts, Fails, Dead, has, fated. Conditions: no more than 16384 sectors, no more than 5 cuts; each one's fates take at most 2^47 bytes. -/
import Derived.Test.YthlhnjjofefgcaaGreatDoorDWalkD
namespace Go.Proofs.YthlhnjjofefgcaaGreatDoor.D
open Go.ChangeShapes Go.WideShapes Go.ChangeAt Go.RowKit

/-- A sector: what is there for good, whether it is torn, which write waits for it. -/
structure Sec where
  kept : ByteArray
  torn : Bool
  last : Nat

/-- A write that waits. -/
structure Wr where
  sec : Nat
  bytes : ByteArray

/-- A disk. -/
structure Dk where
  secs : List Sec
  waits : List Wr
  cuts : List Ct
  acts : Nat
  since : Nat
  fails : Nat
  dead : Bool

/-- Sectors in memory. -/
structure SecsAt (w : World) (g : Nat) (l : List Sec) : Prop where
  out : ∃ cur : Array Value, w.heap[g]? = some (.cells cur 86) ∧ ∀ i (h : i < l.length), cur[i * 3]? = some (.string l[i].kept) ∧ cur[i * 3 + 1]? = some (.bool l[i].torn) ∧ cur[i * 3 + 2]? = some (.int .i64 (l[i].last : Nat))

theorem SecsAt.cells {w : World} {g : Nat} {l : List Sec} (h : SecsAt w g l) (i : Nat) (hi : i < l.length) :
    w.cell? ⟨g, i * 3, none⟩ = some (.string l[i].kept) ∧ w.cell? ⟨g, i * 3 + 1, none⟩ = some (.bool l[i].torn) ∧ w.cell? ⟨g, i * 3 + 2, none⟩ = some (.int .i64 (l[i].last : Nat)) := by
  obtain ⟨cur, hg, hc⟩ := h.out
  obtain ⟨h1, h2, h3⟩ := hc i hi
  exact ⟨by rw [cell_of_row w g _ _ _ _ hg]; exact h1, by rw [cell_of_row w g _ _ _ _ hg]; exact h2, by rw [cell_of_row w g _ _ _ _ hg]; exact h3⟩
theorem SecsAt.frozen {w : World} {g : Nat} {l : List Sec} (h : SecsAt w g l) (i : Nat) : w.frozen? ⟨g, i, none⟩ = false := by
  obtain ⟨cur, hg, _⟩ := h.out
  exact frozen_of_row w g _ _ _ hg
theorem SecsAt.block {w w' : World} {g : Nat} {l : List Sec} (h : SecsAt w g l) (hb : w'.heap[g]? = w.heap[g]?) : SecsAt w' g l := by
  obtain ⟨cur, hg, hc⟩ := h.out
  exact ⟨cur, hb.trans hg, hc⟩

theorem SecsAt.set {w : World} {g : Nat} {l : List Sec} (h : SecsAt w g l) (i : Nat) (hi : i < l.length) (f : Sec → Sec) (j : Nat) (hj : j ≤ 2) (v : Value)
    (h0 : j = 0 → v = .string (f l[i]).kept) (h0' : j ≠ 0 → (f l[i]).kept = l[i].kept) (h1 : j = 1 → v = .bool (f l[i]).torn) (h1' : j ≠ 1 → (f l[i]).torn = l[i].torn)
    (h2 : j = 2 → v = .int .i64 ((f l[i]).last : Nat)) (h2' : j ≠ 2 → (f l[i]).last = l[i].last) :
    SecsAt (w.setCell ⟨g, i * 3 + j, none⟩ v) g (l.modify i f) := by
  obtain ⟨cur, hg, hc⟩ := h.out
  refine ⟨_, heap_setCell_same w g (i * 3 + j) _ _ _ hg, fun k hk => ?_⟩
  have hk' : k < l.length := by simpa using hk
  obtain ⟨e0, e1, e2⟩ := hc k hk'
  rw [List.getElem_modify]
  by_cases hik : i = k
  · subst hik
    have l0 := (Array.getElem?_eq_some_iff.1 e0).1
    have l1 := (Array.getElem?_eq_some_iff.1 e1).1
    have l2 := (Array.getElem?_eq_some_iff.1 e2).1
    rw [if_pos rfl]
    refine ⟨?_, ?_, ?_⟩
    · by_cases e : j = 0
      · subst e
        rw [Nat.add_zero, Array.getElem?_setIfInBounds_self_of_lt l0, h0 rfl]
      · rw [Array.getElem?_setIfInBounds_ne (by omega), e0, h0' e]
    · by_cases e : j = 1
      · subst e
        rw [Array.getElem?_setIfInBounds_self_of_lt l1, h1 rfl]
      · rw [Array.getElem?_setIfInBounds_ne (by omega), e1, h1' e]
    · by_cases e : j = 2
      · subst e
        rw [Array.getElem?_setIfInBounds_self_of_lt l2, h2 rfl]
      · rw [Array.getElem?_setIfInBounds_ne (by omega), e2, h2' e]
  · rw [if_neg hik]
    exact ⟨by rw [Array.getElem?_setIfInBounds_ne (by omega)]; exact e0, by rw [Array.getElem?_setIfInBounds_ne (by omega)]; exact e1, by rw [Array.getElem?_setIfInBounds_ne (by omega)]; exact e2⟩

/-- Writes as cells. -/
def wrCells (l : List Wr) : List Value := l.flatMap fun x => [.int .i64 (x.sec : Nat), .string x.bytes]
theorem wrCells_length (l : List Wr) : (wrCells l).length = l.length * 2 := by
  induction l with
  | nil => rfl
  | cons x r ih => simp only [wrCells, List.flatMap_cons, List.length_append, List.length_cons] at ih ⊢; rw [ih]; simp; omega
theorem wrCells_get : ∀ (l : List Wr) (j : Nat) (h : j < l.length), (wrCells l)[j * 2]? = some (.int .i64 (l[j].sec : Nat)) ∧ (wrCells l)[j * 2 + 1]? = some (.string l[j].bytes)
  | x :: r, 0, _ => by simp [wrCells]
  | x :: r, j + 1, h => by
    have := wrCells_get r j (by simpa using h)
    rw [show (j + 1) * 2 = j * 2 + 2 by omega, show j * 2 + 2 + 1 = j * 2 + 1 + 2 by omega]
    simpa [wrCells] using this
theorem wrCells_snoc (l : List Wr) (x : Wr) : wrCells (l ++ [x]) = wrCells l ++ [.int .i64 (x.sec : Nat), .string x.bytes] := by simp [wrCells]
theorem wrCells_set : ∀ (l : List Wr) (j : Nat) (x : Wr), ((wrCells l).set (j * 2) (.int .i64 (x.sec : Nat))).set (j * 2 + 1) (.string x.bytes) = wrCells (l.set j x)
  | [], j, x => by simp [wrCells]
  | y :: r, 0, x => by simp [wrCells]
  | y :: r, j + 1, x => by
    have := wrCells_set r j x
    rw [show (j + 1) * 2 = j * 2 + 2 by omega, show j * 2 + 2 + 1 = j * 2 + 1 + 2 by omega]
    simpa [wrCells] using this

/-- A disk in memory: its block, its sectors' block, what waits, cuts. -/
structure DAt (B : Nat) (w : World) (b g : Nat) (vw vc : Value) (d : Dk) : Prop where
  blk : w.heap[b]? = some (.cells #[.slice (some ⟨g, 0, none⟩) d.secs.length d.secs.length, vw, vc, .int .i64 (d.acts : Nat), .int .i64 (d.since : Nat), .int .i64 (d.fails : Nat), .bool d.dead] 81)
  secs : SecsAt w g d.secs
  waits : w.ownsRow B 115 2 vw d.waits.length (wrCells d.waits)
  cuts : CutsAt 0 w vc d.cuts
  leb : B ≤ b
  leg : B ≤ g

/-- A disk in memory. -/
structure DiskAt (B : Nat) (w : World) (b g : Nat) (d : Dk) : Prop where
  out : ∃ vw vc, DAt B w b g vw vc d

theorem DAt.cell {B : Nat} {w : World} {b g : Nat} {vw vc : Value} {d : Dk} (h : DAt B w b g vw vc d) :
    w.cell? ⟨b, 0, none⟩ = some (.slice (some ⟨g, 0, none⟩) d.secs.length d.secs.length) ∧ w.cell? ⟨b, 1, none⟩ = some vw ∧ w.cell? ⟨b, 2, none⟩ = some vc ∧ w.cell? ⟨b, 3, none⟩ = some (.int .i64 (d.acts : Nat)) ∧
    w.cell? ⟨b, 4, none⟩ = some (.int .i64 (d.since : Nat)) ∧ w.cell? ⟨b, 5, none⟩ = some (.int .i64 (d.fails : Nat)) ∧ w.cell? ⟨b, 6, none⟩ = some (.bool d.dead) := by
  refine ⟨?_, ?_, ?_, ?_, ?_, ?_, ?_⟩ <;> (rw [cell_of_row w b _ _ _ _ h.blk]; rfl)
theorem DAt.frozen {B : Nat} {w : World} {b g : Nat} {vw vc : Value} {d : Dk} (h : DAt B w b g vw vc d) (j : Nat) : w.frozen? ⟨b, j, none⟩ = false := frozen_of_row w b j _ _ h.blk

theorem Kept.disk {w w' : World} (h : Kept w w') {B b g : Nat} {vw vc : Value} {d : Dk} (k : DAt B w b g vw vc d) : DAt B w' b g vw vc d := by
  obtain ⟨cur, hg, hc⟩ := k.secs.out
  exact ⟨h.block k.blk, ⟨cur, h.block hg, hc⟩, own_kept h k.waits, k.cuts.on (h.on (Nat.zero_le _)), k.leb, k.leg⟩
theorem Kept.dk {w w' : World} (h : Kept w w') {B b g : Nat} {d : Dk} (k : DiskAt B w b g d) : DiskAt B w' b g d := by
  obtain ⟨vw, vc, k⟩ := k.out
  exact ⟨vw, vc, h.disk k⟩

/-- A new disk. -/
def Dk.new (n : Nat) (cuts : List Ct) : Dk := ⟨List.replicate n ⟨whole ⟨#[]⟩, false, 0⟩, [], cuts, 0, 0, 0, false⟩

theorem times_get (s : ByteArray) : ∀ (n i : Nat), i < n → (times n (blank s))[i * 3]? = some (.string s) ∧ (times n (blank s))[i * 3 + 1]? = some (.bool false) ∧ (times n (blank s))[i * 3 + 2]? = some (.int .i64 0)
  | n + 1, 0, _ => by simp [times, blank, List.replicate_succ]
  | n + 1, i + 1, h => by
    have := times_get s n i (by omega)
    rw [show (i + 1) * 3 = i * 3 + 3 by omega, show i * 3 + 3 + 1 = i * 3 + 1 + 3 by omega, show i * 3 + 3 + 2 = i * 3 + 2 + 3 by omega]
    simpa [times, blank, List.replicate_succ] using this

theorem two_new (w : World) (o p : Obj) : ((w.alloc o).alloc p).heap[w.heap.size + 1]? = some p := by
  have := heap_alloc_new (w.alloc o) p
  rwa [show (w.alloc o).heap.size = w.heap.size + 1 by simp] at this

theorem repeat_at (n : Nat) (hn : n ≤ 16384) (s : ByteArray) (b : Nat) (w : World) (hb : w.heap[b]? = some (.cells #[.string s, .bool false, .int .i64 0] 86)) :
    Calls Tryz.prog 39 #[.slice (some ⟨b, 0, none⟩) 1 1, .int .i64 (n : Nat)] w fun e w' => ∃ g, e = .returned (.slice (some ⟨g, 0, none⟩) n n) ∧ w.heap.size ≤ g ∧ w'.heap[g]? = some (.cells (times n (blank s)).toArray 86) ∧ Kept w w' := by
  refine (repeat_walk n hn s b w hb).mono ?_
  rintro e w' ⟨rfl, h1, h2⟩
  exact ⟨_, rfl, Nat.le_refl _, h1, h2⟩

set_option maxHeartbeats 2000000 in
set_option maxRecDepth 100000 in
theorem new_walk {B : Nat} {w : World} {v : Value} {l : List Ct} (n : Nat) (hn : n ≤ 16384) (h : CutsAt B w v l) (hB : B ≤ w.heap.size) (hl : l.length ≤ 5) (hfl : ∀ c ∈ l, c.fates.length * 8 ≤ 140737488355328) :
    Calls Tryz.prog 23 #[.int .i64 (n : Nat), v] w fun e w' => ∃ b g, e = .returned (.tuple #[.pointer (some ⟨b, 0, none⟩), .int .i64 0]) ∧ DiskAt w.heap.size w' b g (Dk.new n l) ∧ Kept w w' := by
  have hd1 : decide ((n : Int) < 0) = false := by simp
  have hd2 : decide ((16384 : Int) < (n : Int)) = false := by simp; omega
  have hwh := whole_walk ⟨#[]⟩ (by decide)
  unfold Dk.new
  generalize whole ⟨#[]⟩ = s0 at hwh ⊢
  go_enter Tryz.func23, Tryz.ntmps23
  go_wp2_with (first
    | (go_at_call 38; refine (hwh _).mono ?_; rintro e w1 ⟨rfl, hk1⟩)
    | (go_at_call 39; refine (repeat_at n hn s0 _ _ (two_new _ _ _)).mono ?_; rintro e w2 ⟨g, rfl, hlg, hs2, hk2⟩; have hk20 : Kept w w2 := ((hk1.alloc _).alloc _).trans hk2; have hlg0 : w.heap.size ≤ g := Nat.le_trans ((hk1.alloc _).alloc _).size hlg; clear hk2 hlg)
    | (go_at_call 40; refine (own_walk (h.on (hk20.on hB)) (Nat.le_trans hB hk20.size) hl hfl).mono ?_; rintro e w3 ⟨v3, rfl, hc3, hk3⟩; obtain ⟨p3, q3, e3, hc3'⟩ := hc3.out; subst e3))
  go_ret2
  refine ⟨_, g, rfl, ⟨_, _, by simp only [List.length_replicate]; exact heap_alloc_new _ _, ?_, World.ownsRow_nil _ _ _ _, hc3.on (((Kept.refl w3).alloc _).on (Nat.zero_le _)), (hk20.trans hk3).size, hlg0⟩, (hk20.trans hk3).alloc _⟩
  refine ⟨_, (((Kept.refl w3).alloc _)).block (hk3.block hs2), fun i hi => ?_⟩
  have hi' : i < n := by simpa using hi
  have := times_get s0 n i hi'
  simpa using this

theorem new_bad {w : World} {v : Value} (n : Int) (h : n < 0 ∨ 16384 < n) :
    Calls Tryz.prog 23 #[.int .i64 n, v] w fun e w' => e = .returned (.tuple #[.pointer none, .int .i64 1]) ∧ w' = w := by
  go_enter Tryz.func23, Tryz.ntmps23
  go_wp2
  · go_ret2
    exact ⟨rfl, rfl⟩
  · go_ret2
    exact ⟨rfl, rfl⟩

theorem sectors_walk {B : Nat} {w : World} {b g : Nat} {d : Dk} (h : DiskAt B w b g d) : Calls Tryz.prog 25 #[.pointer (some ⟨b, 0, none⟩)] w fun e w' => e = .returned (.int .i64 (d.secs.length : Nat)) ∧ w' = w := by
  obtain ⟨vw, vc, k⟩ := h.out
  obtain ⟨c0, c1, c2, c3, c4, c5, c6⟩ := k.cell
  go_enter Tryz.func25, Tryz.ntmps25
  go_wp2
  go_ret
  exact ⟨rfl, rfl⟩
theorem fails_walk {B : Nat} {w : World} {b g : Nat} {d : Dk} (h : DiskAt B w b g d) : Calls Tryz.prog 22 #[.pointer (some ⟨b, 0, none⟩)] w fun e w' => e = .returned (.int .i64 (d.fails : Nat)) ∧ w' = w := by
  obtain ⟨vw, vc, k⟩ := h.out
  obtain ⟨c0, c1, c2, c3, c4, c5, c6⟩ := k.cell
  go_enter Tryz.func22, Tryz.ntmps22
  go_wp2
  go_ret
  exact ⟨rfl, rfl⟩
theorem dead_walk {B : Nat} {w : World} {b g : Nat} {d : Dk} (h : DiskAt B w b g d) : Calls Tryz.prog 61 #[.pointer (some ⟨b, 0, none⟩)] w fun e w' => e = .returned (.bool d.dead) ∧ w' = w := by
  obtain ⟨vw, vc, k⟩ := h.out
  obtain ⟨c0, c1, c2, c3, c4, c5, c6⟩ := k.cell
  go_enter Tryz.func61, Tryz.ntmps61
  go_wp2
  go_ret
  exact ⟨rfl, rfl⟩
theorem sectors_nil {w : World} : Calls Tryz.prog 25 #[.pointer none] w fun e w' => e = .returned (.int .i64 0) ∧ w' = w := by
  go_enter Tryz.func25, Tryz.ntmps25
  go_wp2
  go_ret
  exact ⟨rfl, rfl⟩
theorem fails_nil {w : World} : Calls Tryz.prog 22 #[.pointer none] w fun e w' => e = .returned (.int .i64 0) ∧ w' = w := by
  go_enter Tryz.func22, Tryz.ntmps22
  go_wp2
  go_ret
  exact ⟨rfl, rfl⟩
theorem dead_nil {w : World} : Calls Tryz.prog 61 #[.pointer none] w fun e w' => e = .returned (.bool true) ∧ w' = w := by
  go_enter Tryz.func61, Tryz.ntmps61
  go_wp2
  go_ret
  exact ⟨rfl, rfl⟩
theorem has_walk {B : Nat} {w : World} {b g : Nat} {d : Dk} (h : DiskAt B w b g d) (n : Int) : Calls Tryz.prog 62 #[.pointer (some ⟨b, 0, none⟩), .int .i64 n] w fun e w' => e = .returned (.bool (decide (0 ≤ n ∧ n < (d.secs.length : Int)))) ∧ w' = w := by
  obtain ⟨vw, vc, k⟩ := h.out
  obtain ⟨c0, c1, c2, c3, c4, c5, c6⟩ := k.cell
  by_cases h0 : 0 ≤ n
  · go_enter Tryz.func62, Tryz.ntmps62
    go_wp2
    go_ret
    exact ⟨by simp [h0], rfl⟩
  · go_enter Tryz.func62, Tryz.ntmps62
    go_wp2
    go_ret
    exact ⟨by simp; omega, rfl⟩

/-- How many writes the next cut has fates for. -/
def Dk.fated (d : Dk) : Nat := match d.cuts with
  | [] => 0
  | c :: _ => c.fates.length

theorem fated_walk {B : Nat} {w : World} {b g : Nat} {d : Dk} (h : DiskAt B w b g d) : Calls Tryz.prog 82 #[.pointer (some ⟨b, 0, none⟩)] w fun e w' => e = .returned (.int .i64 (d.fated : Nat)) ∧ w' = w := by
  obtain ⟨vw, vc, k⟩ := h.out
  obtain ⟨c0, c1, c2, c3, c4, c5, c6⟩ := k.cell
  obtain ⟨p, c, rfl, h1, h2, hc⟩ := k.cuts.out
  cases hd : d.cuts with
  | nil =>
    rw [hd] at c2
    have ef : d.fated = 0 := by simp [Dk.fated, hd]
    go_enter Tryz.func82, Tryz.ntmps82
    go_wp2
    go_ret
    exact ⟨by rw [ef]; rfl, rfl⟩
  | cons x r =>
    have ef : d.fated = x.fates.length := by simp [Dk.fated, hd]
    rw [hd] at hc
    obtain ⟨bc, off, vf, rfl, hs, hx, hy, hf⟩ := hc 0 (by simp)
    obtain ⟨p', c', rfl, _⟩ := hf.out
    rw [Nat.zero_mul, Nat.add_zero] at hx hy
    have hlen : d.cuts.length = r.length + 1 := by rw [hd]; rfl
    rw [hlen] at c2
    go_enter Tryz.func82, Tryz.ntmps82
    go_wp2
    go_ret
    exact ⟨by rw [ef]; rfl, rfl⟩
end Go.Proofs.YthlhnjjofefgcaaGreatDoor.D
