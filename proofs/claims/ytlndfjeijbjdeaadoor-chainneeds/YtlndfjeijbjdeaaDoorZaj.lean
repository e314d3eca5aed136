/- Joined: DWalkI DWalkJ DWalkK DWalkL DWalkM DWalkN DFrame. What is proved of the functions beneath ChainNeeds. Conditions: those that each row names. -/
import Derived.Test.YtlndfjeijbjdeaaDoorZai
namespace Go.Proofs.YtlndfjeijbjdeaaDoor.D
open Go.ChangeShapes Go.WideShapes Go.ChangeAt Go.RowKit

theorem read_dead {B : Nat} {w : World} {b g : Nat} {d : Dk} (h : DiskAt B w b g d) (hd : d.dead = true) (n : Int) : Calls Tryd.prog 43 #[.pointer (some ⟨b, 0, none⟩), .int .i64 n] w fun e w' => e = .returned (.tuple #[.string ⟨#[]⟩, .int .i64 40]) ∧ w' = w := by
  have hw := dead_walk h
  rw [hd] at hw
  go_enter Tryd.func43, Tryd.ntmps43
  go_wp2_with (go_at_call 36; refine hw.mono ?_; rintro e w' ⟨rfl, hw'⟩; rw [hw']; clear hw')
  go_ret2
  exact ⟨rfl, rfl⟩
theorem write_dead {B : Nat} {w : World} {b g : Nat} {d : Dk} (h : DiskAt B w b g d) (hd : d.dead = true) (n : Int) (s : ByteArray) : Calls Tryd.prog 19 #[.pointer (some ⟨b, 0, none⟩), .int .i64 n, .string s] w fun e w' => e = .returned (.int .i64 40) ∧ w' = w := by
  have hw := dead_walk h
  rw [hd] at hw
  go_enter Tryd.func19, Tryd.ntmps19
  go_wp2_with (go_at_call 36; refine hw.mono ?_; rintro e w' ⟨rfl, hw'⟩; rw [hw']; clear hw')
  go_ret
  exact ⟨rfl, rfl⟩

theorem read_range {B : Nat} {w : World} {b g : Nat} {d : Dk} (h : DiskAt B w b g d) (hd : d.dead = false) (n : Int) (hn : ¬ (0 ≤ n ∧ n < (d.secs.length : Int))) :
    Calls Tryd.prog 43 #[.pointer (some ⟨b, 0, none⟩), .int .i64 n] w fun e w' => e = .returned (.tuple #[.string ⟨#[]⟩, .int .i64 42]) ∧ w' = w := by
  have hw := dead_walk h
  rw [hd] at hw
  have hh := has_walk h n
  rw [decide_eq_false hn] at hh
  go_enter Tryd.func43, Tryd.ntmps43
  go_wp2_with (first
    | (go_at_call 36; refine hw.mono ?_; rintro e w' ⟨rfl, hw'⟩; rw [hw']; clear hw')
    | (go_at_call 37; refine hh.mono ?_; rintro e w' ⟨rfl, hw'⟩; rw [hw']; clear hw'))
  go_ret2
  exact ⟨rfl, rfl⟩
theorem write_range {B : Nat} {w : World} {b g : Nat} {d : Dk} (h : DiskAt B w b g d) (hd : d.dead = false) (n : Int) (hn : ¬ (0 ≤ n ∧ n < (d.secs.length : Int))) (s : ByteArray) :
    Calls Tryd.prog 19 #[.pointer (some ⟨b, 0, none⟩), .int .i64 n, .string s] w fun e w' => e = .returned (.int .i64 42) ∧ w' = w := by
  have hw := dead_walk h
  rw [hd] at hw
  have hh := has_walk h n
  rw [decide_eq_false hn] at hh
  go_enter Tryd.func19, Tryd.ntmps19
  go_wp2_with (first
    | (go_at_call 36; refine hw.mono ?_; rintro e w' ⟨rfl, hw'⟩; rw [hw']; clear hw')
    | (go_at_call 37; refine hh.mono ?_; rintro e w' ⟨rfl, hw'⟩; rw [hw']; clear hw'))
  go_ret
  exact ⟨rfl, rfl⟩
theorem write_long {B : Nat} {w : World} {b g : Nat} {d : Dk} (h : DiskAt B w b g d) (hd : d.dead = false) (n : Int) (hn : 0 ≤ n ∧ n < (d.secs.length : Int)) (s : ByteArray) (hs : 256 < s.size) :
    Calls Tryd.prog 19 #[.pointer (some ⟨b, 0, none⟩), .int .i64 n, .string s] w fun e w' => e = .returned (.int .i64 1) ∧ w' = w := by
  have hw := dead_walk h
  rw [hd] at hw
  have hh := has_walk h n
  rw [decide_eq_true hn] at hh
  have hss : decide ((256 : Int) < (s.size : Int)) = true := by simp; omega
  go_enter Tryd.func19, Tryd.ntmps19
  go_wp2_with (first
    | (go_at_call 36; refine hw.mono ?_; rintro e w' ⟨rfl, hw'⟩; rw [hw']; clear hw')
    | (go_at_call 37; refine hh.mono ?_; rintro e w' ⟨rfl, hw'⟩; rw [hw']; clear hw'))
  go_ret
  exact ⟨rfl, rfl⟩

/-- A read in which the power fails. -/
theorem read_cut {B : Nat} {w : World} {b g : Nat} {d d' : Dk} (h : DiskAt B w b g d) (hd : d.dead = false) (n : Int) (hn : 0 ≤ n ∧ n < (d.secs.length : Int))
    (hact : Calls Tryd.prog 39 #[.pointer (some ⟨b, 0, none⟩)] w fun e w' => e = .returned (.int .i64 40) ∧ DiskAt B w' b g d' ∧ On B w w') :
    Calls Tryd.prog 43 #[.pointer (some ⟨b, 0, none⟩), .int .i64 n] w fun e w' => e = .returned (.tuple #[.string ⟨#[]⟩, .int .i64 40]) ∧ DiskAt B w' b g d' ∧ On B w w' := by
  have hw := dead_walk h
  rw [hd] at hw
  have hh := has_walk h n
  rw [decide_eq_true hn] at hh
  go_enter Tryd.func43, Tryd.ntmps43
  go_wp2_with (first
    | (go_at_call 36; refine hw.mono ?_; rintro e w' ⟨rfl, hw'⟩; rw [hw']; clear hw')
    | (go_at_call 37; refine hh.mono ?_; rintro e w' ⟨rfl, hw'⟩; rw [hw']; clear hw')
    | (go_at_call 39; refine hact.mono ?_; rintro e w1 ⟨rfl, hk1, ho1⟩))
  go_ret2
  exact ⟨rfl, hk1, ho1⟩

/-- What a sector says. -/
def Dk.says (d : Dk) (n : Nat) : ByteArray × Int := match d.secs[n]? with
  | none => (⟨#[]⟩, 42)
  | some s => match s.last with
    | q + 1 => match d.waits[q]? with
      | none => (⟨#[]⟩, 42)
      | some x => (x.bytes, 0)
    | 0 => if s.torn then (⟨#[]⟩, 41) else (s.kept, 0)

set_option maxHeartbeats 2000000 in
theorem read_ok {B : Nat} {w : World} {b g : Nat} {d d' : Dk} (h : DiskAt B w b g d) (hB : B ≤ w.heap.size) (hd : d.dead = false) (n : Nat) (hn : n < d.secs.length) (hw1000 : d'.waits.length ≤ 100000)
    (hact : Calls Tryd.prog 39 #[.pointer (some ⟨b, 0, none⟩)] w fun e w' => e = .returned (.int .i64 0) ∧ DiskAt B w' b g d' ∧ On B w w') (hn' : n < d'.secs.length) (hl : d'.secs[n].last ≤ d'.waits.length) :
    Calls Tryd.prog 43 #[.pointer (some ⟨b, 0, none⟩), .int .i64 (n : Nat)] w fun e w' => e = .returned (.tuple #[.string (d'.says n).1, .int .i64 (d'.says n).2]) ∧ DiskAt B w' b g d' ∧ On B w w' := by
  have hw := dead_walk h
  rw [hd] at hw
  have hh := has_walk h (n : Int)
  rw [decide_eq_true (by omega)] at hh
  have i1 : (0 : Int) ≤ (n : Int) := by omega
  have i2 : (n : Int) < (d'.secs.length : Int) := by omega
  obtain ⟨S, hS⟩ : ∃ S, d'.secs[n] = S := ⟨_, rfl⟩
  have hsome : d'.secs[n]? = some S := by rw [List.getElem?_eq_getElem hn', hS]
  rw [hS] at hl
  rcases hlast : S.last with _ | q
  · cases htorn : S.torn with
    | true =>
      have hv : d'.says n = (⟨#[]⟩, 41) := by simp [Dk.says, hsome, hlast, htorn]
      rw [hv]
      go_enter Tryd.func43, Tryd.ntmps43
      go_wp2_with (first
        | (go_at_call 36; refine hw.mono ?_; rintro e w' ⟨rfl, hw'⟩; rw [hw']; clear hw')
        | (go_at_call 37; refine hh.mono ?_; rintro e w' ⟨rfl, hw'⟩; rw [hw']; clear hw')
        | (go_at_call 39; refine hact.mono ?_; rintro e w1 ⟨rfl, hk1, ho1⟩; obtain ⟨vw, vc, k0⟩ := hk1.out; have c0 := k0.cell.1; have s0 := k0.secs.cells n hn'; rw [hS, hlast, htorn] at s0; obtain ⟨s1, s2, s3⟩ := s0))
      go_ret2
      exact ⟨rfl, ((Kept.refl w1).alloc _).dk hk1, ho1.alloc hB _⟩
    | false =>
      have hv : d'.says n = (S.kept, 0) := by simp [Dk.says, hsome, hlast, htorn]
      rw [hv]
      go_enter Tryd.func43, Tryd.ntmps43
      go_wp2_with (first
        | (go_at_call 36; refine hw.mono ?_; rintro e w' ⟨rfl, hw'⟩; rw [hw']; clear hw')
        | (go_at_call 37; refine hh.mono ?_; rintro e w' ⟨rfl, hw'⟩; rw [hw']; clear hw')
        | (go_at_call 39; refine hact.mono ?_; rintro e w1 ⟨rfl, hk1, ho1⟩; obtain ⟨vw, vc, k0⟩ := hk1.out; have c0 := k0.cell.1; have s0 := k0.secs.cells n hn'; rw [hS, hlast, htorn] at s0; obtain ⟨s1, s2, s3⟩ := s0))
      go_ret2
      exact ⟨rfl, ((Kept.refl w1).alloc _).dk hk1, ho1.alloc hB _⟩
  · rw [hlast] at hl
    have hq : q < d'.waits.length := by omega
    have hv : d'.says n = (d'.waits[q].bytes, 0) := by simp [Dk.says, hsome, hlast, List.getElem?_eq_getElem hq]
    rw [hv]
    have q1 : (0 : Int) ≤ (q : Int) := by omega
    have q2 : (q : Int) < (d'.waits.length : Int) := by omega
    go_enter Tryd.func43, Tryd.ntmps43
    go_wp2_with (first
      | (go_at_call 36; refine hw.mono ?_; rintro e w' ⟨rfl, hw'⟩; rw [hw']; clear hw')
      | (go_at_call 37; refine hh.mono ?_; rintro e w' ⟨rfl, hw'⟩; rw [hw']; clear hw')
      | (go_at_call 39; refine hact.mono ?_; rintro e w1 ⟨rfl, hk1, ho1⟩; obtain ⟨vw, vc, k0⟩ := hk1.out; have c0 := k0.cell.1; have s0 := k0.secs.cells n hn'; rw [hS, hlast] at s0; obtain ⟨s1, s2, s3⟩ := s0; have s3' : w1.cell? ⟨g, n * 3 + 2, none⟩ = some (.int .i64 ((q : Int) + 1)) := s3; clear s3; obtain ⟨h0, cap, e0, _, _⟩ := k0.waits.form (by omega); subst e0; have cw := k0.cell.2.1; have r1 := k0.waits.cellAt (q * 2 + 1) (by omega); rw [(wrCells_get d'.waits q hq).2] at r1))
    have kA := ((Kept.refl w1).alloc (.cells #[.string S.kept, .bool S.torn, .int .i64 ((q : Int) + 1)] 48)).disk k0
    have cwA := kA.cell.2.1
    have r1A := kA.waits.cellAt (q * 2 + 1) (by omega)
    rw [(wrCells_get d'.waits q hq).2] at r1A
    go_quiet (fail)
    go_wp2
    go_ret2
    exact ⟨rfl, (((Kept.refl w1).alloc _).drewN nq).dk hk1, ho1.kept (((Kept.refl w1).alloc _).drewN nq) hB⟩

set_option maxHeartbeats 2000000 in
theorem write_go {B : Nat} {w : World} {b g : Nat} {d d1 d2 : Dk} (h : DiskAt B w b g d) (hB : B ≤ w.heap.size) (hd : d.dead = false) (n : Nat) (hn : n < d.secs.length) (s : ByteArray) (hs : s.size ≤ 256) (code : Int)
    (hwa : ∀ w1, DiskAt B w1 b g d → B ≤ w1.heap.size → Calls Tryd.prog 38 #[.pointer (some ⟨b, 0, none⟩), (Wr.mk n (whole s)).val] w1 fun e w2 => e = .returned (.tuple #[]) ∧ DiskAt B w2 b g d1 ∧ On B w1 w2)
    (hact : ∀ w1, DiskAt B w1 b g d1 → B ≤ w1.heap.size → Calls Tryd.prog 39 #[.pointer (some ⟨b, 0, none⟩)] w1 fun e w2 => e = .returned (.int .i64 code) ∧ DiskAt B w2 b g d2 ∧ On B w1 w2) :
    Calls Tryd.prog 19 #[.pointer (some ⟨b, 0, none⟩), .int .i64 (n : Nat), .string s] w fun e w' => e = .returned (.int .i64 code) ∧ DiskAt B w' b g d2 ∧ On B w w' := by
  have hw := dead_walk h
  rw [hd] at hw
  have hh := has_walk h (n : Int)
  rw [decide_eq_true (by omega)] at hh
  have hss : decide ((256 : Int) < (s.size : Int)) = false := by simp; omega
  unfold Wr.val at hwa
  go_enter Tryd.func19, Tryd.ntmps19
  go_wp2_with (first
    | (go_at_call 36; refine hw.mono ?_; rintro e w' ⟨rfl, hw'⟩; rw [hw']; clear hw')
    | (go_at_call 37; refine hh.mono ?_; rintro e w' ⟨rfl, hw'⟩; rw [hw']; clear hw')
    | (go_at_call 16; refine (whole_walk s hs _).mono ?_; rintro e w1 ⟨rfl, hk1⟩)
    | (go_at_call 38; refine (hwa w1 (hk1.dk h) (Nat.le_trans hB hk1.size)).mono ?_; rintro e w2 ⟨rfl, hd2, ho2⟩; have ho20 := (hk1.on hB).trans ho2)
    | (go_at_call 39; refine (hact w2 hd2 (Nat.le_trans hB ho20.size)).mono ?_; rintro e w3 ⟨rfl, hd3, ho3⟩))
  go_ret
  exact ⟨rfl, hd3, ho20.trans ho3⟩

theorem low (k m : Nat) (hk : k ≤ 10) (h1 : (BitVec.ofInt 64 (m : Int)).toNat = 2 ^ k - 1) (a : Int) : ∃ x : Nat, x < 2 ^ k ∧ bits .and .i64 a m = (x : Int) := by
  have key : (BitVec.ofInt 64 a &&& BitVec.ofInt 64 m).toNat = (a % ((2 ^ 64 : Nat) : Int)).toNat % 2 ^ k := by
    rw [BitVec.toNat_and, BitVec.toNat_ofInt, h1, Nat.and_two_pow_sub_one_eq_mod]
  have hp : 2 ^ k ≤ 2 ^ 10 := Nat.pow_le_pow_right (by decide) hk
  have hl := Nat.mod_lt (a % ((2 ^ 64 : Nat) : Int)).toNat (Nat.two_pow_pos k)
  refine ⟨(a % ((2 ^ 64 : Nat) : Int)).toNat % 2 ^ k, hl, ?_⟩
  show IntKind.i64.wrap ((BitVec.ofInt 64 a &&& BitVec.ofInt 64 m).toNat : Nat) = _
  rw [key, IntKind.wrap_i64]
  omega


/-- Sectors when so many writes are settled. -/
def settled (l : List Wr) (f : Nat → Nat) (s : List Sec) : Nat → List Sec
  | 0 => s
  | k + 1 => match l[k]? with
    | none => settled l f s k
    | some x => (settled l f s k).modify x.sec (settle1 x (f k))
theorem settled_succ (l : List Wr) (f : Nat → Nat) (s : List Sec) (k : Nat) (h : k < l.length) : settled l f s (k + 1) = (settled l f s k).modify l[k].sec (settle1 l[k] (f k)) := by
  rw [settled, List.getElem?_eq_getElem h]
theorem settled_length (l : List Wr) (f : Nat → Nat) (s : List Sec) : ∀ k, (settled l f s k).length = s.length
  | 0 => rfl
  | k + 1 => by
    rw [settled]
    split
    · exact settled_length l f s k
    · rw [List.length_modify]; exact settled_length l f s k

/-- A disk whose power fails. -/
def Dk.fail (d : Dk) (c : Ct) (r : List Ct) : Dk := { d with secs := settled d.waits (fateOf c) d.secs d.waits.length, waits := [], cuts := r, dead := true, fails := d.fails + 1 }

set_option maxHeartbeats 4000000 in
set_option maxRecDepth 100000 in
theorem fail_walk {B : Nat} {w : World} {b g : Nat} {d : Dk} (h : DiskAt B w b g d) (hB : B ≤ w.heap.size) (c : Ct) (r : List Ct) (hc : d.cuts = c :: r) (hw : d.waits.length ≤ 100000) (hs : ∀ x ∈ d.waits, x.sec < d.secs.length) (hf : d.fails ≤ 100000) :
    Calls Tryd.prog 59 #[.pointer (some ⟨b, 0, none⟩)] w fun e w' => e = .returned (.tuple #[]) ∧ DiskAt B w' b g (d.fail c r) ∧ On B w w' := by
  obtain ⟨vw, vc, k0⟩ := h.out
  obtain ⟨p, cap, rfl⟩ := own_form k0.waits
  obtain ⟨pc, cc, rfl, hcc, hcm, hcu⟩ := k0.cuts.out
  have e1 := k0.cell.2.1
  go_enter Tryd.func59, Tryd.ntmps59
  go_wp2
  go_loopg [9] d.waits.length (fun q iv wx => ∃ k : Nat, q + k = d.waits.length ∧ iv = .int .i64 k ∧ DAt B wx b g (.slice p d.waits.length cap) (.slice pc d.cuts.length cc) { d with secs := settled d.waits (fateOf c) d.secs k } ∧ On B w wx)
  case atStart => exact ⟨0, rfl, rfl, k0, On.refl _ _⟩
  case round =>
    obtain ⟨k, hq, rfl, hk, ho⟩ := hrel
    by_cases hlt : k < d.waits.length
    · have hd : decide ((k : Int) < (d.waits.length : Int)) = true := by simpa using hlt
      have i1 : (0 : Int) ≤ (k : Int) := by omega
      have i2 : (k : Int) < (d.waits.length : Int) := by omega
      obtain ⟨h0, cap', e0, _, _⟩ := hk.waits.form (by show 0 < d.waits.length; omega)
      injection e0 with e0 _ e0'
      subst e0 e0'
      have r0 := hk.waits.cellAt (k * 2) (by show _ < d.waits.length * 2; omega)
      have r1 := hk.waits.cellAt (k * 2 + 1) (by show _ < d.waits.length * 2; omega)
      rw [(wrCells_get d.waits k hlt).1] at r0
      rw [(wrCells_get d.waits k hlt).2] at r1
      obtain ⟨bc, off, vf, rfl, hsb, x0, x1, hfa⟩ := hcu 0 (by rw [hc]; simp)
      have hc0 : d.cuts[0]'(by rw [hc]; simp) = c := by simp [hc]
      rw [hc0] at x0 hfa
      rw [Nat.zero_mul, Nat.add_zero] at x0 x1
      obtain ⟨pf, cf, rfl, _⟩ := hfa.out
      have hor := ho.mono (Nat.zero_le B)
      obtain ⟨hsbr, _⟩ := hor.sb hsb
      have y0 := (hor.sbCell hsb off).trans x0
      have y1 := (hor.sbCell hsb (off + 1)).trans x1
      have hfr := hfa.on hor
      have hlen : d.cuts.length = r.length + 1 := by rw [hc]; rfl
      have e2 := hk.cell.2.2.1
      have hBr := Nat.le_trans hB ho.size
      obtain ⟨X, hX⟩ : ∃ X, d.waits[k] = X := ⟨_, rfl⟩
      have hXs : X.sec < (settled d.waits (fateOf c) d.secs k).length := by rw [settled_length, ← hX]; exact hs _ (List.getElem_mem hlt)
      rw [hX] at r0 r1
      have hstep : { d with secs := settled d.waits (fateOf c) d.secs (k + 1) } = ({ d with secs := settled d.waits (fateOf c) d.secs k } : Dk).settle X (fateOf c k) := by
        rw [settled_succ _ _ _ _ hlt, hX]; rfl
      obtain ⟨O, hO⟩ : ∃ O, O = Obj.cells #[.int .i64 (X.sec : Nat), .string X.bytes] 94 := ⟨_, rfl⟩
      have hkA : Kept wr (wr.alloc O) := (Kept.refl wr).alloc O
      have A2 := (hkA.disk hk).cell.2.2.1
      have B3 := (hkA.on (Nat.zero_le _)).sbCell hsbr off
      rw [y0] at B3
      have B4 := (hkA.on (Nat.zero_le _)).sbCell hsbr (off + 1)
      rw [y1] at B4
      have N0 : (wr.alloc O).heap[wr.heap.size]? = some O := heap_alloc_new wr O
      have A0 : (wr.alloc O).cell? ⟨wr.heap.size, 0, none⟩ = some (.int .i64 (X.sec : Nat)) := by rw [hO] at N0 ⊢; rw [cell_of_row _ _ _ _ _ _ N0]; rfl
      have A1 : (wr.alloc O).cell? ⟨wr.heap.size, 1, none⟩ = some (.string X.bytes) := by rw [hO] at N0 ⊢; rw [cell_of_row _ _ _ _ _ _ N0]; rfl
      have hko := hkA.disk hk
      have hfA := hfr.on (hkA.on (Nat.zero_le _))
      subst hO
      rw [hlen] at A2 e2
      go_wp2
      generalize wr.alloc (Obj.cells #[.int .i64 (X.sec : Nat), .string X.bytes] 94) = WA at *
      have hltA : wr.heap.size < WA.heap.size := (Array.getElem?_eq_some_iff.1 N0).1
      clear N0
      have A3 : WA.cell? ⟨bc, off, none⟩ = some (.int .i64 c.at_) := B3
      have A4 : WA.cell? ⟨bc, off + 1, none⟩ = some (.slice pf c.fates.length cf) := B4
      have hBA := Nat.le_trans hBr hkA.size
      have hoA : On B w WA := ho.kept hkA hB
      clear e2 y0 y1 hfr hsbr hor x0 x1 hsb hfa r0 r1 hk hcu hkA
      go_region_with (first
        | (go_at_call 72; refine (fateOf_walk c (hfA.on (((Kept.refl WA).drew).on (Nat.zero_le _))) k (by omega)).mono ?_; rintro e w2 ⟨rfl, hk2⟩; have hk20 : Kept WA w2 := ((Kept.refl WA).drew).trans hk2; have m0 := World.cell?_of_block (w := WA) (a := ⟨wr.heap.size, 0, none⟩) (hk20.out.block wr.heap.size hltA); rw [A0] at m0; have m1 := World.cell?_of_block (w := WA) (a := ⟨wr.heap.size, 1, none⟩) (hk20.out.block wr.heap.size hltA); rw [A1] at m1; have hd2 := hk20.disk hko)
        | (go_at_call 60; refine (settle_walk hd2 (Nat.le_trans hBA hk20.size) X hXs (fateOf c k) (fateOf_le c k)).mono ?_; rintro e w3 ⟨rfl, hd3, ho3⟩))
      all_goals
        go_wp2
        go_roundg (d.waits.length - (k + 1))
        case measure => omega
        case rel => exact ⟨k + 1, by omega, by go_num, by rw [hstep]; exact hd3, (hoA.kept hk20 hB).trans ho3⟩
    · have hd : decide ((k : Int) < (d.waits.length : Int)) = false := by simpa using hlt
      obtain rfl : k = d.waits.length := by omega
      have hlen : d.cuts.length = r.length + 1 := by rw [hc]; rfl
      have hor := ho.mono (Nat.zero_le B)
      obtain ⟨bc, off, vf, rfl, hsb, x0, x1, hfa⟩ := hcu 0 (by rw [hc]; simp)
      have hkD := (Kept.refl wr).drew.disk hk
      obtain ⟨c0, c1, c2, c3, c4, c5, c6⟩ := hk.cell
      have f1 := hk.frozen 1
      have f2 := hk.frozen 2
      have f5 := hk.frozen 5
      have f6 := hk.frozen 6
      have k1 := hkD.setNone
      have o1 := (hkD.turn 1 (.slice none 0 0)).2.2.2
      have hcut : ∃ v', CutsAt 0 wr.drew v' r ∧ v' = .slice (if cc = 1 then some ⟨bc, off, none⟩ else some ⟨bc, off + 2, none⟩) r.length (cc - 1) := by
        refine ⟨_, ⟨_, _, rfl, by rw [hlen] at hcc; omega, by omega, fun j hj => ?_⟩, rfl⟩
        rw [hlen] at hcc
        rw [if_neg (by omega)]
        obtain ⟨b', off', vf', e', hs', y0, y1, hf'⟩ := hcu (j + 1) (by rw [hlen]; omega)
        injection e' with e'
        injection e' with e1 e2
        subst e1 e2
        have hel : d.cuts[j + 1]'(by rw [hlen]; omega) = r[j] := by simp [hc]
        rw [hel] at y0 hf'
        have hoD : On 0 w wr.drew := hor.drew
        refine ⟨bc, off + 2, vf', rfl, (hoD.sb hs').1, ?_, ?_, hf'.on hoD⟩
        · rw [show off + 2 + j * 2 = off + (j + 1) * 2 by omega, hoD.sbCell hs']; exact y0
        · rw [show off + 2 + j * 2 + 1 = off + (j + 1) * 2 + 1 by omega, hoD.sbCell hs']; exact y1
      obtain ⟨v', hv', ev'⟩ := hcut
      have k2 := k1.setCuts v' r (hv'.on (o1.mono (Nat.zero_le _)))
      have o2 := (k1.turn 2 v').2.2.2
      have k3 := k2.setDead true
      have o3 := (k2.turn 6 (.bool true)).2.2.2
      have k4 : DAt B _ b g _ _ _ := k3.setFails (d.fails + 1)
      have o4 := (k3.turn 5 (.int .i64 ((d.fails + 1 : Nat) : Int))).2.2.2
      have hoF := ((((ho.drew).trans o1).trans o2).trans o3).trans o4
      rw [hlen] at c2
      have i1 : (1 : Int) ≤ (r.length : Int) + 1 := by omega
      go_wp2
      go_region
      rw [← ev']
      clear ev'
      go_wp2
      first | go_end0 | refine bodyPost_ret (results_none rfl _ _ _) rfl ?_
      exact ⟨rfl, ⟨_, _, k4⟩, hoF⟩

/-- A disk behind an act that is begun. -/
def Dk.begin (d : Dk) : Dk := { d with acts := d.acts + 1, since := d.since + 1 }

set_option maxHeartbeats 2000000 in
theorem act_cut {B : Nat} {w : World} {b g : Nat} {d : Dk} (h : DiskAt B w b g d) (hB : B ≤ w.heap.size) (ha : d.acts ≤ 100000) (hs : d.since ≤ 100000) (hf : d.fails ≤ 100000) (c : Ct) (r : List Ct) (hc : d.cuts = c :: r) (hlt : ¬ (d.since : Int) < c.at_)
    (hw : d.waits.length ≤ 100000) (hx : ∀ x ∈ d.waits, x.sec < d.secs.length) :
    Calls Tryd.prog 39 #[.pointer (some ⟨b, 0, none⟩)] w fun e w' => e = .returned (.int .i64 40) ∧ DiskAt B w' b g (d.begin.fail c r) ∧ On B w w' := by
  obtain ⟨vw, vc, k0⟩ := h.out
  obtain ⟨pc, cc, rfl, hcc, hcm, hcu⟩ := k0.cuts.out
  obtain ⟨c0, c1, c2, c3, c4, c5, c6⟩ := k0.cell
  have f3 := k0.frozen 3
  have f4 := k0.frozen 4
  have k1 : DAt B (w.setCell ⟨b, 3, none⟩ (.int .i64 ((d.acts : Int) + 1))) b g vw (.slice pc d.cuts.length cc) { d with acts := d.acts + 1 } := k0.setActs (d.acts + 1)
  have o1 := (k0.turn 3 (.int .i64 ((d.acts : Int) + 1))).2.2.2
  have k2 : DAt B ((w.setCell ⟨b, 3, none⟩ (.int .i64 ((d.acts : Int) + 1))).setCell ⟨b, 4, none⟩ (.int .i64 ((d.since : Int) + 1))) b g vw (.slice pc d.cuts.length cc) d.begin := k1.setSince (d.since + 1)
  have o2 := (k1.turn 4 (.int .i64 ((d.since : Int) + 1))).2.2.2
  have ho := o1.trans o2
  obtain ⟨bc, off, vf, rfl, hsb, hx0, hy, hfa⟩ := hcu 0 (by rw [hc]; simp)
  rw [Nat.zero_mul, Nat.add_zero] at hx0
  have hx' : w.cell? ⟨bc, off, none⟩ = some (.int .i64 c.at_) := by rw [hx0]; simp [hc]
  have hdd : decide ((d.since : Int) < c.at_) = false := by simpa using hlt
  have hlen : d.cuts.length = r.length + 1 := by rw [hc]; rfl
  rw [hlen] at c2
  have hz0 := (ho.mono (Nat.zero_le _)).sbCell hsb off
  rw [hx'] at hz0
  have hfail := fail_walk ⟨_, _, k2⟩ (Nat.le_trans hB ho.size) c r hc hw hx hf
  clear k1 o1 o2 hcu k0
  go_enter Tryd.func39, Tryd.ntmps39
  go_wp2_with (go_at_call 59; refine hfail.mono ?_; rintro e w3 ⟨rfl, hd3, ho3⟩)
  go_ret
  exact ⟨rfl, hd3, ho.trans ho3⟩

theorem flush_dead {B : Nat} {w : World} {b g : Nat} {d : Dk} (h : DiskAt B w b g d) (hd : d.dead = true) : Calls Tryd.prog 40 #[.pointer (some ⟨b, 0, none⟩)] w fun e w' => e = .returned (.int .i64 40) ∧ w' = w := by
  have hw := dead_walk h
  rw [hd] at hw
  go_enter Tryd.func40, Tryd.ntmps40
  go_wp2_with (go_at_call 36; refine hw.mono ?_; rintro e w' ⟨rfl, hw'⟩; rw [hw']; clear hw')
  go_ret
  exact ⟨rfl, rfl⟩

theorem flush_cut {B : Nat} {w : World} {b g : Nat} {d d' : Dk} (h : DiskAt B w b g d) (hd : d.dead = false)
    (hact : Calls Tryd.prog 39 #[.pointer (some ⟨b, 0, none⟩)] w fun e w' => e = .returned (.int .i64 40) ∧ DiskAt B w' b g d' ∧ On B w w') :
    Calls Tryd.prog 40 #[.pointer (some ⟨b, 0, none⟩)] w fun e w' => e = .returned (.int .i64 40) ∧ DiskAt B w' b g d' ∧ On B w w' := by
  have hw := dead_walk h
  rw [hd] at hw
  go_enter Tryd.func40, Tryd.ntmps40
  go_wp2_with (first
    | (go_at_call 36; refine hw.mono ?_; rintro e w' ⟨rfl, hw'⟩; rw [hw']; clear hw')
    | (go_at_call 39; refine hact.mono ?_; rintro e w1 ⟨rfl, hk1, ho1⟩))
  go_ret
  exact ⟨rfl, hk1, ho1⟩

/-- A disk of which all that waits is there for good. -/
def Dk.good (d : Dk) : Dk := { d with secs := settled d.waits (fun _ => 1) d.secs d.waits.length, waits := [] }

set_option maxHeartbeats 4000000 in
set_option maxRecDepth 100000 in
theorem flush_ok {B : Nat} {w : World} {b g : Nat} {d d' : Dk} (h : DiskAt B w b g d) (hB : B ≤ w.heap.size) (hd : d.dead = false)
    (hact : Calls Tryd.prog 39 #[.pointer (some ⟨b, 0, none⟩)] w fun e w' => e = .returned (.int .i64 0) ∧ DiskAt B w' b g d' ∧ On B w w') (hw : d'.waits.length ≤ 100000) (hs : ∀ x ∈ d'.waits, x.sec < d'.secs.length) :
    Calls Tryd.prog 40 #[.pointer (some ⟨b, 0, none⟩)] w fun e w' => e = .returned (.int .i64 0) ∧ DiskAt B w' b g d'.good ∧ On B w w' := by
  have hwd := dead_walk h
  rw [hd] at hwd
  go_enter Tryd.func40, Tryd.ntmps40
  go_wp2_with (first
    | (go_at_call 36; refine hwd.mono ?_; rintro e w' ⟨rfl, hw'⟩; rw [hw']; clear hw')
    | (go_at_call 39; refine hact.mono ?_; rintro e w1 ⟨rfl, hk1, ho1⟩; obtain ⟨vw, vc, k0⟩ := hk1.out; obtain ⟨p, cap, ep⟩ := own_form k0.waits; subst ep; have e1 := k0.cell.2.1))
  clear hact hwd h
  go_loopg [18] d'.waits.length (fun q iv wx => ∃ k : Nat, q + k = d'.waits.length ∧ iv = .int .i64 k ∧ DAt B wx b g (.slice p d'.waits.length cap) vc { d' with secs := settled d'.waits (fun _ => 1) d'.secs k } ∧ On B w wx)
  case atStart => exact ⟨0, rfl, rfl, k0, ho1⟩
  case round =>
    obtain ⟨k, hq, rfl, hk, ho⟩ := hrel
    by_cases hlt : k < d'.waits.length
    · have hd : decide ((k : Int) < (d'.waits.length : Int)) = true := by simpa using hlt
      have i1 : (0 : Int) ≤ (k : Int) := by omega
      have i2 : (k : Int) < (d'.waits.length : Int) := by omega
      obtain ⟨h0, cap', e0, _, _⟩ := hk.waits.form (by show 0 < d'.waits.length; omega)
      injection e0 with e0 _ e0'
      subst e0 e0'
      have r0 := hk.waits.cellAt (k * 2) (by show _ < d'.waits.length * 2; omega)
      have r1 := hk.waits.cellAt (k * 2 + 1) (by show _ < d'.waits.length * 2; omega)
      rw [(wrCells_get d'.waits k hlt).1] at r0
      rw [(wrCells_get d'.waits k hlt).2] at r1
      obtain ⟨X, hX⟩ : ∃ X, d'.waits[k] = X := ⟨_, rfl⟩
      have hXs : X.sec < (settled d'.waits (fun _ => 1) d'.secs k).length := by rw [settled_length, ← hX]; exact hs _ (List.getElem_mem hlt)
      rw [hX] at r0 r1
      have hstep : { d' with secs := settled d'.waits (fun _ => 1) d'.secs (k + 1) } = ({ d' with secs := settled d'.waits (fun _ => 1) d'.secs k } : Dk).settle X 1 := by
        rw [settled_succ _ _ _ _ hlt, hX]; rfl
      have hkA : Kept wr (wr.alloc (Obj.cells #[.int .i64 (X.sec : Nat), .string X.bytes] 94)) := (Kept.refl wr).alloc _
      have hoA := ho.kept hkA hB
      have hset := settle_walk (hkA.disk hk) (Nat.le_trans hB hoA.size) X hXs 1 (by omega)
      unfold Wr.val at hset
      clear e1 k0 ho1 hk1
      go_wp2_with (go_at_call 60; refine hset.mono ?_; rintro e w3 ⟨rfl, hd3, ho3⟩)
      go_roundg (d'.waits.length - (k + 1))
      case measure => omega
      case rel => exact ⟨k + 1, by omega, by go_num, by rw [hstep]; exact hd3, hoA.trans ho3⟩
    · have hd : decide ((k : Int) < (d'.waits.length : Int)) = false := by simpa using hlt
      obtain rfl : k = d'.waits.length := by omega
      have c1 := hk.cell.2.1
      have f1 := hk.frozen 1
      have k1 := hk.setNone
      have o1 := (hk.turn 1 (.slice none 0 0)).2.2.2
      clear e1 k0 ho1 hk1
      go_wp2
      go_ret
      exact ⟨rfl, ⟨_, _, k1⟩, ho.trans o1⟩

/-- A disk that is whole: what waits is of sectors that there are; which write waits for a sector is one that waits; no more acts than m. -/
structure Ok (m : Nat) (d : Dk) : Prop where
  secs : ∀ x ∈ d.waits, x.sec < d.secs.length
  last : ∀ i (h : i < d.secs.length) q, d.secs[i].last = q + 1 → ∃ hq : q < d.waits.length, d.waits[q].sec = i
  waits : d.waits.length ≤ d.acts
  acts : d.acts ≤ m
  since : d.since ≤ d.acts
  fails : d.fails ≤ d.acts

def Dk.wait (d : Dk) (x : Wr) : Dk := match d.secs[x.sec]? with
  | none => d
  | some s => if s.last ≤ d.fated then { d with waits := d.waits ++ [x], secs := d.secs.modify x.sec fun s => { s with last := d.waits.length + 1 } } else { d with waits := d.waits.set (s.last - 1) x }

def Dk.act (d : Dk) : Dk × Bool := match d.cuts with
  | [] => (d.begin, false)
  | c :: r => if (d.since : Int) < c.at_ then (d.begin, false) else (d.begin.fail c r, true)

def Dk.write (d : Dk) (n : Int) (s : ByteArray) : Dk × Int :=
  if d.dead then (d, 40) else if ¬ (0 ≤ n ∧ n < (d.secs.length : Int)) then (d, 42) else if 256 < s.size then (d, 1) else
    (((d.wait ⟨n.toNat, whole s⟩).act).1, if ((d.wait ⟨n.toNat, whole s⟩).act).2 then 40 else 0)

def Dk.read (d : Dk) (n : Int) : Dk × ByteArray × Int :=
  if d.dead then (d, ⟨#[]⟩, 40) else if ¬ (0 ≤ n ∧ n < (d.secs.length : Int)) then (d, ⟨#[]⟩, 42) else
    if d.act.2 then (d.act.1, ⟨#[]⟩, 40) else (d.act.1, d.act.1.says n.toNat)

def Dk.flush (d : Dk) : Dk × Int := if d.dead then (d, 40) else if d.act.2 then (d.act.1, 40) else (d.act.1.good, 0)

/-- When all that waits is settled, no sector has one that waits. -/
theorem settled_none (l : List Wr) (f : Nat → Nat) (s : List Sec) : ∀ k, k ≤ l.length → ∀ i (h : i < (settled l f s k).length) (h' : i < s.length), (s[i].last = 0 ∨ ∃ j, ∃ hj : j < l.length, j < k ∧ l[j].sec = i) → (settled l f s k)[i].last = 0
  | 0, _, i, h, h', hc => by
    rcases hc with hc | ⟨j, _, hj, _⟩
    · exact hc
    · omega
  | k + 1, hk, i, h, h', hc => by
    have hi : i < (settled l f s k).length := by rw [settled_length] at h ⊢; exact h
    have e := settled_succ l f s k (by omega)
    simp only [e] at h ⊢
    rw [List.getElem_modify]
    split
    · unfold settle1; split <;> rfl
    · rename_i hne
      refine settled_none l f s k (by omega) i hi h' ?_
      rcases hc with hc | ⟨j, hjl, hj, he⟩
      · exact .inl hc
      · exact .inr ⟨j, hjl, by have : j ≠ k := (by intro ejk; subst ejk; exact hne he); omega, he⟩

theorem settled_zero {m : Nat} {d : Dk} (h : Ok m d) (f : Nat → Nat) (i : Nat) (hi : i < (settled d.waits f d.secs d.waits.length).length) : (settled d.waits f d.secs d.waits.length)[i].last = 0 := by
  have hi' : i < d.secs.length := by rwa [settled_length] at hi
  refine settled_none _ _ _ _ (Nat.le_refl _) i hi hi' ?_
  rcases hl : d.secs[i].last with _ | q
  · exact .inl rfl
  · obtain ⟨hq, he⟩ := h.last i hi' q hl
    exact .inr ⟨q, hq, hq, he⟩

theorem fail_ok {m : Nat} {d : Dk} (h : Ok m d) (c : Ct) (r : List Ct) (hf : d.fails + 1 ≤ d.acts) : Ok m (d.fail c r) :=
  ⟨fun x hx => by simp [Dk.fail] at hx, fun i hi q hq => by rw [show (d.fail c r).secs[i].last = 0 from settled_zero h _ i hi] at hq; omega, Nat.zero_le _, h.acts, h.since, hf⟩
theorem good_ok {m : Nat} {d : Dk} (h : Ok m d) : Ok m d.good :=
  ⟨fun x hx => by simp [Dk.good] at hx, fun i hi q hq => by rw [show d.good.secs[i].last = 0 from settled_zero h _ i hi] at hq; omega, Nat.zero_le _, h.acts, h.since, h.fails⟩
/-- A disk while a write is begun: one more may wait than acts were begun. -/
structure Ok' (m : Nat) (d : Dk) : Prop where
  secs : ∀ x ∈ d.waits, x.sec < d.secs.length
  last : ∀ i (h : i < d.secs.length) q, d.secs[i].last = q + 1 → ∃ hq : q < d.waits.length, d.waits[q].sec = i
  waits : d.waits.length ≤ d.acts + 1
  acts : d.acts ≤ m
  since : d.since ≤ d.acts
  fails : d.fails ≤ d.acts

theorem Ok.to' {m : Nat} {d : Dk} (h : Ok m d) : Ok' m d := ⟨h.secs, h.last, Nat.le_succ_of_le h.waits, h.acts, h.since, h.fails⟩
theorem begin_ok' {m : Nat} {d : Dk} (h : Ok' m d) : Ok (m + 1) d.begin := ⟨h.secs, h.last, h.waits, Nat.succ_le_succ h.acts, Nat.succ_le_succ h.since, Nat.le_succ_of_le h.fails⟩
theorem act_ok' {m : Nat} {d : Dk} (h : Ok' m d) : Ok (m + 1) d.act.1 := by
  unfold Dk.act
  split
  · exact begin_ok' h
  · split
    · exact begin_ok' h
    · exact fail_ok (begin_ok' h) _ _ (Nat.succ_le_succ h.fails)

theorem wait_ok {m : Nat} {d : Dk} (h : Ok m d) (x : Wr) (hx : x.sec < d.secs.length) : Ok' m (d.wait x) := by
  unfold Dk.wait
  rw [List.getElem?_eq_getElem hx]
  dsimp only
  split
  · refine ⟨fun y hy => ?_, fun i hi q hq => ?_, ?_, h.acts, h.since, h.fails⟩
    · simp only [List.mem_append, List.mem_singleton] at hy
      rw [List.length_modify]
      rcases hy with hy | rfl
      · exact h.secs y hy
      · exact hx
    · have hi' : i < d.secs.length := by simpa using hi
      simp only [List.getElem_modify] at hq
      split at hq
      · rename_i he
        have hq' : q = d.waits.length := by simp only at hq; omega
        subst hq'
        exact ⟨by simp, by simpa using he⟩
      · obtain ⟨hl, he⟩ := h.last i hi' q hq
        exact ⟨by simp; omega, by simp only [List.getElem_append_left hl]; exact he⟩
    · simp only [List.length_append, List.length_singleton]; exact Nat.succ_le_succ h.waits
  · rename_i hl
    refine ⟨fun y hy => ?_, fun i hi q hq => ?_, by rw [List.length_set]; exact Nat.le_succ_of_le h.waits, h.acts, h.since, h.fails⟩
    · rcases List.mem_or_eq_of_mem_set hy with hy | rfl
      · exact h.secs y hy
      · exact hx
    · obtain ⟨hq1, he⟩ := h.last i hi q hq
      refine ⟨by rw [List.length_set]; exact hq1, ?_⟩
      rw [List.getElem_set]
      split
      · rename_i hz
        rcases hlx : d.secs[x.sec].last with _ | q'
        · rw [hlx] at hl; omega
        · obtain ⟨hq2, he2⟩ := h.last x.sec hx q' hlx
          rw [hlx] at hz
          simp only [Nat.add_sub_cancel] at hz
          subst hz
          exact he2.symm.trans he
      · exact he

theorem wait_walk {B : Nat} {w : World} {b g m : Nat} {d : Dk} (h : DiskAt B w b g d) (hB : B ≤ w.heap.size) (ok : Ok m d) (hm : m ≤ 50000) (x : Wr) (hx : x.sec < d.secs.length) :
    Calls Tryd.prog 38 #[.pointer (some ⟨b, 0, none⟩), x.val] w fun e w' => e = .returned (.tuple #[]) ∧ DiskAt B w' b g (d.wait x) ∧ On B w w' := by
  have hw : d.waits.length ≤ 100000 := by have := ok.waits; have := ok.acts; omega
  have he : d.wait x = if d.secs[x.sec].last ≤ d.fated then { d with waits := d.waits ++ [x], secs := d.secs.modify x.sec fun s => { s with last := d.waits.length + 1 } } else { d with waits := d.waits.set (d.secs[x.sec].last - 1) x } := by
    unfold Dk.wait; rw [List.getElem?_eq_getElem hx]
  have hl1 : d.secs[x.sec].last ≤ d.waits.length := by
    rcases hl : d.secs[x.sec].last with _ | q
    · exact Nat.zero_le _
    · obtain ⟨hq, _⟩ := ok.last x.sec hx q hl; omega
  rw [he]
  split
  · rename_i hl
    exact wait_more h hB x hx hw (by omega) hl
  · rename_i hl
    rcases hlx : d.secs[x.sec].last with _ | q
    · rw [hlx] at hl; omega
    · have := wait_same h hB x hx q hlx (by omega) hw (by omega)
      rw [Nat.add_sub_cancel]; exact this

theorem act_walk {B : Nat} {w : World} {b g m : Nat} {d : Dk} (h : DiskAt B w b g d) (hB : B ≤ w.heap.size) (ok : Ok' m d) (hm : m ≤ 50000) :
    Calls Tryd.prog 39 #[.pointer (some ⟨b, 0, none⟩)] w fun e w' => e = .returned (.int .i64 (if d.act.2 then 40 else 0)) ∧ DiskAt B w' b g d.act.1 ∧ On B w w' := by
  have h1 := ok.acts
  have h2 := ok.since
  have h3 := ok.fails
  have h4 := ok.waits
  obtain hd | ⟨c, r, hd⟩ : d.cuts = [] ∨ ∃ x r, d.cuts = x :: r := by cases d.cuts <;> simp
  · have e : d.act = (d.begin, false) := by simp [Dk.act, hd]
    rw [e]
    exact act_ok h (by omega) (by omega) (by rw [hd]; simp)
  · by_cases hlt : (d.since : Int) < c.at_
    · have e : d.act = (d.begin, false) := by simp [Dk.act, hd, hlt]
      rw [e]
      exact act_ok h (by omega) (by omega) (by rw [hd]; intro c' r' e'; injection e' with e1 _; subst e1; exact hlt)
    · have e : d.act = (d.begin.fail c r, true) := by simp [Dk.act, hd, hlt]
      rw [e]
      exact act_cut h hB (by omega) (by omega) (by omega) c r hd hlt (by omega) ok.secs

theorem write_walk {B : Nat} {w : World} {b g m : Nat} {d : Dk} (h : DiskAt B w b g d) (hB : B ≤ w.heap.size) (ok : Ok m d) (hm : m ≤ 50000) (n : Int) (s : ByteArray) :
    Calls Tryd.prog 19 #[.pointer (some ⟨b, 0, none⟩), .int .i64 n, .string s] w fun e w' => e = .returned (.int .i64 (d.write n s).2) ∧ DiskAt B w' b g (d.write n s).1 ∧ On B w w' := by
  unfold Dk.write
  cases hd : d.dead with
  | true =>
    refine (write_dead h hd n s).mono ?_
    rintro e w' ⟨rfl, rfl⟩
    exact ⟨rfl, h, On.refl _ _⟩
  | false =>
    by_cases hn : 0 ≤ n ∧ n < (d.secs.length : Int)
    · by_cases hs : 256 < s.size
      · rw [if_neg (by simp), if_neg (by simpa using hn), if_pos hs]
        refine (write_long h hd n hn s hs).mono ?_
        rintro e w' ⟨rfl, rfl⟩
        exact ⟨rfl, h, On.refl _ _⟩
      · simp only [hn, hs, and_self, not_true_eq_false, if_false, Bool.false_eq_true]
        obtain ⟨k, rfl⟩ := Int.eq_ofNat_of_zero_le hn.1
        have hk : k < d.secs.length := by omega
        exact write_go h hB hd k hk s (by omega) _ (fun w1 h1 hB1 => wait_walk h1 hB1 ok hm ⟨k, whole s⟩ hk) (fun w1 h1 hB1 => act_walk h1 hB1 (wait_ok ok ⟨k, whole s⟩ hk) hm)
    · rw [if_neg (by simp), if_pos hn]
      refine (write_range h hd n hn s).mono ?_
      rintro e w' ⟨rfl, rfl⟩
      exact ⟨rfl, h, On.refl _ _⟩

theorem read_walk {B : Nat} {w : World} {b g m : Nat} {d : Dk} (h : DiskAt B w b g d) (hB : B ≤ w.heap.size) (ok : Ok m d) (hm : m ≤ 50000) (n : Int) :
    Calls Tryd.prog 43 #[.pointer (some ⟨b, 0, none⟩), .int .i64 n] w fun e w' => e = .returned (.tuple #[.string (d.read n).2.1, .int .i64 (d.read n).2.2]) ∧ DiskAt B w' b g (d.read n).1 ∧ On B w w' := by
  unfold Dk.read
  cases hd : d.dead with
  | true =>
    refine (read_dead h hd n).mono ?_
    rintro e w' ⟨rfl, rfl⟩
    exact ⟨rfl, h, On.refl _ _⟩
  | false =>
    by_cases hn : 0 ≤ n ∧ n < (d.secs.length : Int)
    · have hact := act_walk h hB ok.to' hm
      have hok := act_ok' ok.to'
      cases ha : d.act.2 with
      | true =>
        rw [ha] at hact
        simp only [hn, and_self, not_true_eq_false, if_false, if_true, Bool.false_eq_true]
        exact read_cut h hd n hn hact
      | false =>
        rw [ha] at hact
        simp only [hn, and_self, not_true_eq_false, if_false, Bool.false_eq_true]
        obtain ⟨k, rfl⟩ := Int.eq_ofNat_of_zero_le hn.1
        have hk : k < d.secs.length := by omega
        have hk' : k < d.act.1.secs.length := by
          have : d.act.1.secs.length = d.secs.length := by
            unfold Dk.act
            split
            · rfl
            · split
              · rfl
              · exact settled_length _ _ _ _
          omega
        have hw := hok.waits
        have ha' := hok.acts
        refine read_ok h hB hd k hk (by omega) hact hk' ?_
        rcases hl : d.act.1.secs[k].last with _ | q
        · exact Nat.zero_le _
        · obtain ⟨hq, _⟩ := hok.last k hk' q hl; omega
    · rw [if_neg (by simp), if_pos hn]
      refine (read_range h hd n hn).mono ?_
      rintro e w' ⟨rfl, rfl⟩
      exact ⟨rfl, h, On.refl _ _⟩

theorem flush_walk {B : Nat} {w : World} {b g m : Nat} {d : Dk} (h : DiskAt B w b g d) (hB : B ≤ w.heap.size) (ok : Ok m d) (hm : m ≤ 50000) :
    Calls Tryd.prog 40 #[.pointer (some ⟨b, 0, none⟩)] w fun e w' => e = .returned (.int .i64 d.flush.2) ∧ DiskAt B w' b g d.flush.1 ∧ On B w w' := by
  unfold Dk.flush
  cases hd : d.dead with
  | true =>
    refine (flush_dead h hd).mono ?_
    rintro e w' ⟨rfl, rfl⟩
    exact ⟨rfl, h, On.refl _ _⟩
  | false =>
    have hact := act_walk h hB ok.to' hm
    have hok := act_ok' ok.to'
    have hw := hok.waits
    have ha' := hok.acts
    cases ha : d.act.2 with
    | true =>
      rw [ha] at hact
      exact flush_cut h hd hact
    | false =>
      rw [ha] at hact
      exact flush_ok h hB hd hact (by omega) hok.secs

theorem settled_other (l : List Wr) (f : Nat → Nat) (s : List Sec) (n : Nat) (h : ∀ x ∈ l, x.sec ≠ n) : ∀ k, (settled l f s k)[n]? = s[n]?
  | 0 => rfl
  | k + 1 => by
    have ih := settled_other l f s n h k
    cases hx : l[k]? with
    | none => simp only [settled, hx]; exact ih
    | some x =>
      simp only [settled, hx]
      rw [List.getElem?_modify_ne _ _ (h x (List.mem_of_getElem? hx))]
      exact ih

theorem wait_fields (d : Dk) (x : Wr) : (d.wait x).cuts = d.cuts ∧ (d.wait x).acts = d.acts ∧ (d.wait x).since = d.since ∧ (d.wait x).fails = d.fails ∧ (d.wait x).dead = d.dead ∧ (d.wait x).secs.length = d.secs.length := by
  unfold Dk.wait
  split
  · simp
  · split <;> simp
theorem new_ok (n : Nat) (l : List Ct) : Ok 0 (Dk.new n l) :=
  ⟨fun x hx => by simp [Dk.new] at hx, fun i hi q hq => by simp [Dk.new] at hq, Nat.le_refl _, Nat.le_refl _, Nat.le_refl _, Nat.le_refl _⟩


theorem quiet54 : Quiet 54 := by unfold Quiet; decide
theorem quiet48 : Quiet 48 := by unfold Quiet; decide
theorem quiet94 : Quiet 94 := by unfold Quiet; decide

theorem DiskAt.frame {B : Nat} {w w' : World} {b g : Nat} {d : Dk} (h : DiskAt B w b g d)
    (hs : ∀ (k : Nat) (cs : Array Value) (t : TypeId) (fr : Nat × Nat), w.heap[k]? = some (.cells cs t fr) → Quiet t → w'.heap[k]? = some (.cells cs t fr)) : DiskAt B w' b g d := by
  obtain ⟨vw, vc, k⟩ := h.out
  obtain ⟨cur, hg, hc⟩ := k.secs.out
  refine ⟨vw, vc, ⟨hs _ _ _ _ k.blk quiet54, ⟨cur, hs _ _ _ _ hg quiet48, hc⟩, ⟨k.waits.1, ?_⟩, ?_, k.leb, k.leg⟩⟩
  · rcases k.waits.2 with h1 | ⟨r, cap, cu, e1, e2, e3, e4⟩
    · exact .inl h1
    · exact .inr ⟨r, cap, cu, e1, e2, hs _ _ _ _ e3 quiet94, e4⟩
  · have sbs : ∀ x, Sb 0 w x → Sb 0 w' x ∧ w'.heap[x]? = w.heap[x]? := by
      intro x hx
      rcases hx with hx | ⟨cs, t, fr, h1, h2, h3⟩
      · exact absurd hx (by omega)
      · have := hs _ _ _ _ h1 h3
        exact ⟨.inr ⟨cs, t, fr, this, h2, h3⟩, this.trans h1.symm⟩
    obtain ⟨p, c, hv, h1, h2, h3⟩ := k.cuts.out
    refine ⟨p, c, hv, h1, h2, fun j hj => ?_⟩
    obtain ⟨bb, off, vf, hp, hb, hx, hy, hf⟩ := h3 j hj
    refine ⟨bb, off, vf, hp, (sbs _ hb).1, (World.cell?_of_block (w := w) (sbs _ hb).2).trans hx, (World.cell?_of_block (w := w) (sbs _ hb).2).trans hy, ?_⟩
    obtain ⟨p', c', hv', h4⟩ := hf.out
    refine ⟨p', c', hv', fun i hi => ?_⟩
    obtain ⟨b2, off2, hp2, hb2, hx2⟩ := h4 i hi
    exact ⟨b2, off2, hp2, (sbs _ hb2).1, (World.cell?_of_block (w := w) (sbs _ hb2).2).trans hx2⟩
end Go.Proofs.YtlndfjeijbjdeaaDoor.D