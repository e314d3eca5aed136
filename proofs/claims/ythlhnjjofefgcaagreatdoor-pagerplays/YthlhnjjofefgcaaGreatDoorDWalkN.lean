/- What was flushed is there, in plain words: a disk of 9 sectors of which one is written and flushed, and another one is written until the power fails. Conditions: the sector is one of the first 8. -/
import Derived.Test.YthlhnjjofefgcaaGreatDoorDWalkM
namespace Go.Proofs.YthlhnjjofefgcaaGreatDoor.D
open Go.ChangeShapes Go.WideShapes Go.ChangeAt Go.RowKit

theorem settled_other (l : List Wr) (f : Nat → Nat) (s : List Sec) (n : Nat) (h : ∀ x ∈ l, x.sec ≠ n) : ∀ k, (settled l f s k)[n]? = s[n]?
  | 0 => rfl
  | k + 1 => by
    have ih := settled_other l f s n h k
    cases hx : l[k]? with
    | none => simp only [settled, hx]; exact ih
    | some x =>
      simp only [settled, hx]
      rw [List.getElem?_modify_ne _ _ (h x (List.mem_of_getElem? hx))]
      exact ih

theorem wait_fields (d : Dk) (x : Wr) : (d.wait x).cuts = d.cuts ∧ (d.wait x).acts = d.acts ∧ (d.wait x).since = d.since ∧ (d.wait x).fails = d.fails ∧ (d.wait x).dead = d.dead ∧ (d.wait x).secs.length = d.secs.length := by
  unfold Dk.wait
  split
  · simp
  · split <;> simp
theorem wait_other (d : Dk) (x : Wr) (n : Nat) (h : x.sec ≠ n) : (d.wait x).secs[n]? = d.secs[n]? := by
  unfold Dk.wait
  split
  · rfl
  · split
    · exact List.getElem?_modify_ne _ _ h
    · rfl
theorem wait_mem (d : Dk) (x y : Wr) (h : y ∈ (d.wait x).waits) : y ∈ d.waits ∨ y = x := by
  unfold Dk.wait at h
  split at h
  · exact .inl h
  · split at h
    · simpa using h
    · exact List.mem_or_eq_of_mem_set h

/-- While the other sector is written. -/
structure Kp (n : Nat) (T : ByteArray) (c : Ct) (i : Nat) (d : Dk) : Prop where
  len : d.secs.length = 9
  sec : d.secs[n]? = some ⟨T, false, 0⟩
  eight : ∀ x ∈ d.waits, x.sec = 8
  cuts : d.cuts = [c]
  since : d.since = 2 + i
  fails : d.fails = 0
  dead : d.dead = false
  ok : Ok (2 + i) d

/-- Behind the cut. -/
structure Kq (n : Nat) (T : ByteArray) (d : Dk) : Prop where
  len : d.secs.length = 9
  sec : d.secs[n]? = some ⟨T, false, 0⟩
  cuts : d.cuts = []
  fails : d.fails = 1
  ok : Ok 20 d

theorem write_at {d : Dk} (hd : d.dead = false) (hl : d.secs.length = 9) (n : Nat) (hn : n < 9) (s : ByteArray) (hs : s.size ≤ 256) : d.write (n : Nat) s = (((d.wait ⟨n, whole s⟩).act).1, if ((d.wait ⟨n, whole s⟩).act).2 then 40 else 0) := by
  unfold Dk.write
  rw [if_neg (by simp [hd]), if_neg (by rw [hl]; omega), if_neg (by omega)]
  rfl

theorem Kp.step {n : Nat} {T : ByteArray} {c : Ct} {i : Nat} {d : Dk} (h : Kp n T c i d) (hn : n < 8) (hi : ((2 + i : Nat) : Int) < c.at_) (s : ByteArray) (hs : s.size ≤ 256) : Kp n T c (i + 1) (d.write ((8 : Nat) : Int) s).1 := by
  rw [write_at h.dead h.len 8 (by omega) s hs]
  obtain ⟨e1, e2, e3, e4, e5, e6⟩ := wait_fields d ⟨8, whole s⟩
  have hx : (⟨8, whole s⟩ : Wr).sec < d.secs.length := by rw [h.len]; show 8 < 9; decide
  have ea : (d.wait ⟨8, whole s⟩).act = ((d.wait ⟨8, whole s⟩).begin, false) := by
    unfold Dk.act
    rw [e1, h.cuts]
    dsimp only
    rw [if_pos (by rw [e3, h.since]; exact hi)]
  rw [ea]
  refine ⟨e6.trans h.len, ?_, fun x hx => ?_, e1.trans h.cuts, ?_, e4.trans h.fails, e5.trans h.dead, begin_ok' (wait_ok h.ok ⟨8, whole s⟩ hx)⟩
  · show (d.wait ⟨8, whole s⟩).secs[n]? = _
    rw [wait_other _ _ _ (by show 8 ≠ n; omega)]; exact h.sec
  · rcases wait_mem d _ x hx with hx | rfl
    · exact h.eight x hx
    · rfl
  · show (d.wait ⟨8, whole s⟩).since + 1 = _
    rw [e3, h.since]; omega

theorem Kp.last {n : Nat} {T : ByteArray} {c : Ct} {i : Nat} {d : Dk} (h : Kp n T c i d) (hn : n < 8) (hi : ¬ ((2 + i : Nat) : Int) < c.at_) (hi5 : i ≤ 5) (s : ByteArray) (hs : s.size ≤ 256) : Kq n T (d.write ((8 : Nat) : Int) s).1 ∧ (d.write ((8 : Nat) : Int) s).1.dead = true := by
  rw [write_at h.dead h.len 8 (by omega) s hs]
  obtain ⟨e1, e2, e3, e4, e5, e6⟩ := wait_fields d ⟨8, whole s⟩
  have hx : (⟨8, whole s⟩ : Wr).sec < d.secs.length := by rw [h.len]; show 8 < 9; decide
  have hok := act_ok' (wait_ok h.ok ⟨8, whole s⟩ hx)
  have ea : (d.wait ⟨8, whole s⟩).act = ((d.wait ⟨8, whole s⟩).begin.fail c [], true) := by
    unfold Dk.act
    rw [e1, h.cuts]
    dsimp only
    rw [if_neg (by rw [e3, h.since]; exact hi)]
  rw [ea] at hok ⊢
  refine ⟨⟨?_, ?_, rfl, ?_, ⟨hok.secs, hok.last, hok.waits, Nat.le_trans hok.acts (by omega), hok.since, hok.fails⟩⟩, rfl⟩
  · show (settled _ _ _ _).length = 9
    rw [settled_length]; exact e6.trans h.len
  · show (settled (d.wait ⟨8, whole s⟩).waits (fateOf c) (d.wait ⟨8, whole s⟩).secs _)[n]? = _
    rw [settled_other _ _ _ n (fun x hx => by
      rcases wait_mem d _ x hx with hx | rfl
      · rw [h.eight x hx]; omega
      · show 8 ≠ n; omega), wait_other _ _ _ (by show 8 ≠ n; omega)]
    exact h.sec
  · show (d.wait ⟨8, whole s⟩).fails + 1 = 1
    rw [e4, h.fails]

theorem new_ok (n : Nat) (l : List Ct) : Ok 0 (Dk.new n l) :=
  ⟨fun x hx => by simp [Dk.new] at hx, fun i hi q hq => by simp [Dk.new] at hq, Nat.le_refl _, Nat.le_refl _, Nat.le_refl _, Nat.le_refl _⟩

/-- Written, and flushed. -/
theorem kp_first {n : Nat} (hn : n < 8) {T : ByteArray} (hT : T.size ≤ 256) {c : Ct} (hc : 2 ≤ c.at_) :
    ((Dk.new 9 [c]).write (n : Nat) T).2 = 0 ∧ Ok 1 ((Dk.new 9 [c]).write (n : Nat) T).1 ∧ (((Dk.new 9 [c]).write (n : Nat) T).1.flush).2 = 0 ∧ Kp n (whole T) c 0 (((Dk.new 9 [c]).write (n : Nat) T).1.flush).1 := by
  obtain ⟨s0, hs0⟩ : ∃ s0, whole ⟨#[]⟩ = s0 := ⟨_, rfl⟩
  obtain ⟨x, hx⟩ : ∃ x : Wr, x = ⟨n, whole T⟩ := ⟨_, rfl⟩
  have e0 : Dk.new 9 [c] = ⟨List.replicate 9 ⟨s0, false, 0⟩, [], [c], 0, 0, 0, false⟩ := by rw [← hs0]; rfl
  have ew : (Dk.new 9 [c]).wait x = ⟨(List.replicate 9 ⟨s0, false, 0⟩).modify n (fun s => { s with last := 1 }), [x], [c], 0, 0, 0, false⟩ := by
    rw [e0]
    unfold Dk.wait
    have hg : (List.replicate 9 (⟨s0, false, 0⟩ : Sec))[x.sec]? = some ⟨s0, false, 0⟩ := by rw [hx]; rw [List.getElem?_replicate]; rw [if_pos (show n < 9 by omega)]
    simp only [hg]
    rw [if_pos (Nat.zero_le _), hx]
    rfl
  have ea : ((Dk.new 9 [c]).wait x).act = (((Dk.new 9 [c]).wait x).begin, false) := by
    rw [ew]
    unfold Dk.act
    dsimp only
    rw [if_pos (by show ((0 : Nat) : Int) < c.at_; omega)]
  have h1 := write_at (d := Dk.new 9 [c]) rfl (by simp [Dk.new]) n (by omega) T hT
  rw [← hx, ea] at h1
  rw [h1]
  have hok1 : Ok 1 ((Dk.new 9 [c]).wait x).begin := begin_ok' (wait_ok (new_ok 9 [c]) x (by rw [hx]; simp [Dk.new]; omega))
  refine ⟨rfl, hok1, ?_⟩
  have ef : (((Dk.new 9 [c]).wait x).begin).act = (((Dk.new 9 [c]).wait x).begin.begin, false) := by
    rw [ew]
    unfold Dk.act Dk.begin
    dsimp only
    rw [if_pos (by show ((1 : Nat) : Int) < c.at_; omega)]
  have hok2 := good_ok (begin_ok' hok1.to')
  have hfl : (((Dk.new 9 [c]).wait x).begin).flush = (((Dk.new 9 [c]).wait x).begin.begin.good, 0) := by
    unfold Dk.flush
    rw [ef, if_neg (by rw [ew]; simp [Dk.begin])]
    rfl
  rw [hfl]
  refine ⟨rfl, ?_⟩
  rw [ew] at hok2 ⊢
  refine ⟨?_, ?_, fun y hy => by simp [Dk.good] at hy, rfl, rfl, rfl, rfl, hok2⟩
  · show (settled _ _ _ _).length = 9
    rw [settled_length]; simp [Dk.begin]
  · show (settled [x] (fun _ => 1) ((List.replicate 9 (⟨s0, false, 0⟩ : Sec)).modify n (fun s => { s with last := 1 })) 1)[n]? = _
    rw [settled_succ _ _ _ 0 (by simp)]
    show (((List.replicate 9 (⟨s0, false, 0⟩ : Sec)).modify n (fun s => { s with last := 1 })).modify x.sec (settle1 x 1))[n]? = _
    rw [hx, List.getElem?_modify_eq, List.getElem?_modify_eq, List.getElem?_replicate, if_pos (show n < 9 by omega)]
    rfl

theorem kq_end {n : Nat} (hn : n < 8) {T : ByteArray} {d : Dk} (h : Kq n T d) (hd : d.dead = true) : Ok 20 d.up ∧ (d.up.read (n : Nat)).2 = (T, 0) ∧ (d.up.read (n : Nat)).1.fails = 1 := by
  have eu : d.up = { d with dead := false, since := 0 } := by simp [Dk.up, hd]
  have hok := up_ok h.ok
  refine ⟨hok, ?_⟩
  rw [eu]
  have ea : ({ d with dead := false, since := 0 } : Dk).act = (({ d with dead := false, since := 0 } : Dk).begin, false) := by
    unfold Dk.act; simp only [h.cuts]
  unfold Dk.read
  rw [if_neg (by simp), if_neg (by show ¬ ¬ (0 ≤ (n : Int) ∧ (n : Int) < (d.secs.length : Int)); rw [h.len]; omega), ea]
  refine ⟨?_, h.fails⟩
  show Dk.says _ n = _
  unfold Dk.says
  show (match d.secs[n]? with | none => _ | some s => _) = _
  rw [h.sec]
  rfl
end Go.Proofs.YthlhnjjofefgcaaGreatDoor.D
