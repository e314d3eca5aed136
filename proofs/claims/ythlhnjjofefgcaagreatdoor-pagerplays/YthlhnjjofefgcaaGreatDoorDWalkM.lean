/- What a disk's acts are in plain words, and that the program does them: Read, Write, Flush, whatever the disk. Conditions: a disk that is whole (Ok), of no more than 50000 acts. -/
import Derived.Test.YthlhnjjofefgcaaGreatDoorDWalkL
namespace Go.Proofs.YthlhnjjofefgcaaGreatDoor.D
open Go.ChangeShapes Go.WideShapes Go.ChangeAt Go.RowKit

/-- A disk that is whole: what waits is of sectors that there are; which write waits for a sector is one that waits; no more acts than m. -/
structure Ok (m : Nat) (d : Dk) : Prop where
  secs : ∀ x ∈ d.waits, x.sec < d.secs.length
  last : ∀ i (h : i < d.secs.length) q, d.secs[i].last = q + 1 → ∃ hq : q < d.waits.length, d.waits[q].sec = i
  waits : d.waits.length ≤ d.acts
  acts : d.acts ≤ m
  since : d.since ≤ d.acts
  fails : d.fails ≤ d.acts

def Dk.wait (d : Dk) (x : Wr) : Dk := match d.secs[x.sec]? with
  | none => d
  | some s => if s.last ≤ d.fated then { d with waits := d.waits ++ [x], secs := d.secs.modify x.sec fun s => { s with last := d.waits.length + 1 } } else { d with waits := d.waits.set (s.last - 1) x }

def Dk.act (d : Dk) : Dk × Bool := match d.cuts with
  | [] => (d.begin, false)
  | c :: r => if (d.since : Int) < c.at_ then (d.begin, false) else (d.begin.fail c r, true)

def Dk.write (d : Dk) (n : Int) (s : ByteArray) : Dk × Int :=
  if d.dead then (d, 40) else if ¬ (0 ≤ n ∧ n < (d.secs.length : Int)) then (d, 42) else if 256 < s.size then (d, 1) else
    (((d.wait ⟨n.toNat, whole s⟩).act).1, if ((d.wait ⟨n.toNat, whole s⟩).act).2 then 40 else 0)

def Dk.read (d : Dk) (n : Int) : Dk × ByteArray × Int :=
  if d.dead then (d, ⟨#[]⟩, 40) else if ¬ (0 ≤ n ∧ n < (d.secs.length : Int)) then (d, ⟨#[]⟩, 42) else
    if d.act.2 then (d.act.1, ⟨#[]⟩, 40) else (d.act.1, d.act.1.says n.toNat)

def Dk.flush (d : Dk) : Dk × Int := if d.dead then (d, 40) else if d.act.2 then (d.act.1, 40) else (d.act.1.good, 0)

theorem begin_ok {m : Nat} {d : Dk} (h : Ok m d) : Ok (m + 1) d.begin := ⟨h.secs, h.last, Nat.le_succ_of_le h.waits, Nat.succ_le_succ h.acts, Nat.succ_le_succ h.since, Nat.le_succ_of_le h.fails⟩

/-- When all that waits is settled, no sector has one that waits. -/
theorem settled_none (l : List Wr) (f : Nat → Nat) (s : List Sec) : ∀ k, k ≤ l.length → ∀ i (h : i < (settled l f s k).length) (h' : i < s.length), (s[i].last = 0 ∨ ∃ j, ∃ hj : j < l.length, j < k ∧ l[j].sec = i) → (settled l f s k)[i].last = 0
  | 0, _, i, h, h', hc => by
    rcases hc with hc | ⟨j, _, hj, _⟩
    · exact hc
    · omega
  | k + 1, hk, i, h, h', hc => by
    have hi : i < (settled l f s k).length := by rw [settled_length] at h ⊢; exact h
    have e := settled_succ l f s k (by omega)
    simp only [e] at h ⊢
    rw [List.getElem_modify]
    split
    · unfold settle1; split <;> rfl
    · rename_i hne
      refine settled_none l f s k (by omega) i hi h' ?_
      rcases hc with hc | ⟨j, hjl, hj, he⟩
      · exact .inl hc
      · exact .inr ⟨j, hjl, by have : j ≠ k := (by intro ejk; subst ejk; exact hne he); omega, he⟩

theorem settled_zero {m : Nat} {d : Dk} (h : Ok m d) (f : Nat → Nat) (i : Nat) (hi : i < (settled d.waits f d.secs d.waits.length).length) : (settled d.waits f d.secs d.waits.length)[i].last = 0 := by
  have hi' : i < d.secs.length := by rwa [settled_length] at hi
  refine settled_none _ _ _ _ (Nat.le_refl _) i hi hi' ?_
  rcases hl : d.secs[i].last with _ | q
  · exact .inl rfl
  · obtain ⟨hq, he⟩ := h.last i hi' q hl
    exact .inr ⟨q, hq, hq, he⟩

theorem fail_ok {m : Nat} {d : Dk} (h : Ok m d) (c : Ct) (r : List Ct) (hf : d.fails + 1 ≤ d.acts) : Ok m (d.fail c r) :=
  ⟨fun x hx => by simp [Dk.fail] at hx, fun i hi q hq => by rw [show (d.fail c r).secs[i].last = 0 from settled_zero h _ i hi] at hq; omega, Nat.zero_le _, h.acts, h.since, hf⟩
theorem good_ok {m : Nat} {d : Dk} (h : Ok m d) : Ok m d.good :=
  ⟨fun x hx => by simp [Dk.good] at hx, fun i hi q hq => by rw [show d.good.secs[i].last = 0 from settled_zero h _ i hi] at hq; omega, Nat.zero_le _, h.acts, h.since, h.fails⟩
theorem up_ok {m : Nat} {d : Dk} (h : Ok m d) : Ok m d.up := by
  unfold Dk.up
  split
  · exact ⟨h.secs, h.last, h.waits, h.acts, Nat.zero_le _, h.fails⟩
  · exact h

/-- A disk while a write is begun: one more may wait than acts were begun. -/
structure Ok' (m : Nat) (d : Dk) : Prop where
  secs : ∀ x ∈ d.waits, x.sec < d.secs.length
  last : ∀ i (h : i < d.secs.length) q, d.secs[i].last = q + 1 → ∃ hq : q < d.waits.length, d.waits[q].sec = i
  waits : d.waits.length ≤ d.acts + 1
  acts : d.acts ≤ m
  since : d.since ≤ d.acts
  fails : d.fails ≤ d.acts

theorem Ok.to' {m : Nat} {d : Dk} (h : Ok m d) : Ok' m d := ⟨h.secs, h.last, Nat.le_succ_of_le h.waits, h.acts, h.since, h.fails⟩
theorem begin_ok' {m : Nat} {d : Dk} (h : Ok' m d) : Ok (m + 1) d.begin := ⟨h.secs, h.last, h.waits, Nat.succ_le_succ h.acts, Nat.succ_le_succ h.since, Nat.le_succ_of_le h.fails⟩
theorem act_ok' {m : Nat} {d : Dk} (h : Ok' m d) : Ok (m + 1) d.act.1 := by
  unfold Dk.act
  split
  · exact begin_ok' h
  · split
    · exact begin_ok' h
    · exact fail_ok (begin_ok' h) _ _ (Nat.succ_le_succ h.fails)

theorem wait_ok {m : Nat} {d : Dk} (h : Ok m d) (x : Wr) (hx : x.sec < d.secs.length) : Ok' m (d.wait x) := by
  unfold Dk.wait
  rw [List.getElem?_eq_getElem hx]
  dsimp only
  split
  · refine ⟨fun y hy => ?_, fun i hi q hq => ?_, ?_, h.acts, h.since, h.fails⟩
    · simp only [List.mem_append, List.mem_singleton] at hy
      rw [List.length_modify]
      rcases hy with hy | rfl
      · exact h.secs y hy
      · exact hx
    · have hi' : i < d.secs.length := by simpa using hi
      simp only [List.getElem_modify] at hq
      split at hq
      · rename_i he
        have hq' : q = d.waits.length := by simp only at hq; omega
        subst hq'
        exact ⟨by simp, by simpa using he⟩
      · obtain ⟨hl, he⟩ := h.last i hi' q hq
        exact ⟨by simp; omega, by simp only [List.getElem_append_left hl]; exact he⟩
    · simp only [List.length_append, List.length_singleton]; exact Nat.succ_le_succ h.waits
  · rename_i hl
    refine ⟨fun y hy => ?_, fun i hi q hq => ?_, by rw [List.length_set]; exact Nat.le_succ_of_le h.waits, h.acts, h.since, h.fails⟩
    · rcases List.mem_or_eq_of_mem_set hy with hy | rfl
      · exact h.secs y hy
      · exact hx
    · obtain ⟨hq1, he⟩ := h.last i hi q hq
      refine ⟨by rw [List.length_set]; exact hq1, ?_⟩
      rw [List.getElem_set]
      split
      · rename_i hz
        rcases hlx : d.secs[x.sec].last with _ | q'
        · rw [hlx] at hl; omega
        · obtain ⟨hq2, he2⟩ := h.last x.sec hx q' hlx
          rw [hlx] at hz
          simp only [Nat.add_sub_cancel] at hz
          subst hz
          exact he2.symm.trans he
      · exact he

theorem wait_walk {B : Nat} {w : World} {b g m : Nat} {d : Dk} (h : DiskAt B w b g d) (hB : B ≤ w.heap.size) (ok : Ok m d) (hm : m ≤ 50000) (x : Wr) (hx : x.sec < d.secs.length) :
    Calls Tryz.prog 63 #[.pointer (some ⟨b, 0, none⟩), x.val] w fun e w' => e = .returned (.tuple #[]) ∧ DiskAt B w' b g (d.wait x) ∧ On B w w' := by
  have hw : d.waits.length ≤ 100000 := by have := ok.waits; have := ok.acts; omega
  have he : d.wait x = if d.secs[x.sec].last ≤ d.fated then { d with waits := d.waits ++ [x], secs := d.secs.modify x.sec fun s => { s with last := d.waits.length + 1 } } else { d with waits := d.waits.set (d.secs[x.sec].last - 1) x } := by
    unfold Dk.wait; rw [List.getElem?_eq_getElem hx]
  have hl1 : d.secs[x.sec].last ≤ d.waits.length := by
    rcases hl : d.secs[x.sec].last with _ | q
    · exact Nat.zero_le _
    · obtain ⟨hq, _⟩ := ok.last x.sec hx q hl; omega
  rw [he]
  split
  · rename_i hl
    exact wait_more h hB x hx hw (by omega) hl
  · rename_i hl
    rcases hlx : d.secs[x.sec].last with _ | q
    · rw [hlx] at hl; omega
    · have := wait_same h hB x hx q hlx (by omega) hw (by omega)
      rw [Nat.add_sub_cancel]; exact this

theorem act_walk {B : Nat} {w : World} {b g m : Nat} {d : Dk} (h : DiskAt B w b g d) (hB : B ≤ w.heap.size) (ok : Ok' m d) (hm : m ≤ 50000) :
    Calls Tryz.prog 64 #[.pointer (some ⟨b, 0, none⟩)] w fun e w' => e = .returned (.int .i64 (if d.act.2 then 40 else 0)) ∧ DiskAt B w' b g d.act.1 ∧ On B w w' := by
  have h1 := ok.acts
  have h2 := ok.since
  have h3 := ok.fails
  have h4 := ok.waits
  obtain hd | ⟨c, r, hd⟩ : d.cuts = [] ∨ ∃ x r, d.cuts = x :: r := by cases d.cuts <;> simp
  · have e : d.act = (d.begin, false) := by simp [Dk.act, hd]
    rw [e]
    exact act_ok h (by omega) (by omega) (by rw [hd]; simp)
  · by_cases hlt : (d.since : Int) < c.at_
    · have e : d.act = (d.begin, false) := by simp [Dk.act, hd, hlt]
      rw [e]
      exact act_ok h (by omega) (by omega) (by rw [hd]; intro c' r' e'; injection e' with e1 _; subst e1; exact hlt)
    · have e : d.act = (d.begin.fail c r, true) := by simp [Dk.act, hd, hlt]
      rw [e]
      exact act_cut h hB (by omega) (by omega) (by omega) c r hd hlt (by omega) ok.secs

theorem write_walk {B : Nat} {w : World} {b g m : Nat} {d : Dk} (h : DiskAt B w b g d) (hB : B ≤ w.heap.size) (ok : Ok m d) (hm : m ≤ 50000) (n : Int) (s : ByteArray) :
    Calls Tryz.prog 41 #[.pointer (some ⟨b, 0, none⟩), .int .i64 n, .string s] w fun e w' => e = .returned (.int .i64 (d.write n s).2) ∧ DiskAt B w' b g (d.write n s).1 ∧ On B w w' := by
  unfold Dk.write
  cases hd : d.dead with
  | true =>
    refine (write_dead h hd n s).mono ?_
    rintro e w' ⟨rfl, rfl⟩
    exact ⟨rfl, h, On.refl _ _⟩
  | false =>
    by_cases hn : 0 ≤ n ∧ n < (d.secs.length : Int)
    · by_cases hs : 256 < s.size
      · rw [if_neg (by simp), if_neg (by simpa using hn), if_pos hs]
        refine (write_long h hd n hn s hs).mono ?_
        rintro e w' ⟨rfl, rfl⟩
        exact ⟨rfl, h, On.refl _ _⟩
      · simp only [hn, hs, and_self, not_true_eq_false, if_false, Bool.false_eq_true]
        obtain ⟨k, rfl⟩ := Int.eq_ofNat_of_zero_le hn.1
        have hk : k < d.secs.length := by omega
        exact write_go h hB hd k hk s (by omega) _ (fun w1 h1 hB1 => wait_walk h1 hB1 ok hm ⟨k, whole s⟩ hk) (fun w1 h1 hB1 => act_walk h1 hB1 (wait_ok ok ⟨k, whole s⟩ hk) hm)
    · rw [if_neg (by simp), if_pos hn]
      refine (write_range h hd n hn s).mono ?_
      rintro e w' ⟨rfl, rfl⟩
      exact ⟨rfl, h, On.refl _ _⟩

theorem read_walk {B : Nat} {w : World} {b g m : Nat} {d : Dk} (h : DiskAt B w b g d) (hB : B ≤ w.heap.size) (ok : Ok m d) (hm : m ≤ 50000) (n : Int) :
    Calls Tryz.prog 54 #[.pointer (some ⟨b, 0, none⟩), .int .i64 n] w fun e w' => e = .returned (.tuple #[.string (d.read n).2.1, .int .i64 (d.read n).2.2]) ∧ DiskAt B w' b g (d.read n).1 ∧ On B w w' := by
  unfold Dk.read
  cases hd : d.dead with
  | true =>
    refine (read_dead h hd n).mono ?_
    rintro e w' ⟨rfl, rfl⟩
    exact ⟨rfl, h, On.refl _ _⟩
  | false =>
    by_cases hn : 0 ≤ n ∧ n < (d.secs.length : Int)
    · have hact := act_walk h hB ok.to' hm
      have hok := act_ok' ok.to'
      cases ha : d.act.2 with
      | true =>
        rw [ha] at hact
        simp only [hn, and_self, not_true_eq_false, if_false, if_true, Bool.false_eq_true]
        exact read_cut h hd n hn hact
      | false =>
        rw [ha] at hact
        simp only [hn, and_self, not_true_eq_false, if_false, Bool.false_eq_true]
        obtain ⟨k, rfl⟩ := Int.eq_ofNat_of_zero_le hn.1
        have hk : k < d.secs.length := by omega
        have hk' : k < d.act.1.secs.length := by
          have : d.act.1.secs.length = d.secs.length := by
            unfold Dk.act
            split
            · rfl
            · split
              · rfl
              · exact settled_length _ _ _ _
          omega
        have hw := hok.waits
        have ha' := hok.acts
        refine read_ok h hB hd k hk (by omega) hact hk' ?_
        rcases hl : d.act.1.secs[k].last with _ | q
        · exact Nat.zero_le _
        · obtain ⟨hq, _⟩ := hok.last k hk' q hl; omega
    · rw [if_neg (by simp), if_pos hn]
      refine (read_range h hd n hn).mono ?_
      rintro e w' ⟨rfl, rfl⟩
      exact ⟨rfl, h, On.refl _ _⟩

theorem flush_walk {B : Nat} {w : World} {b g m : Nat} {d : Dk} (h : DiskAt B w b g d) (hB : B ≤ w.heap.size) (ok : Ok m d) (hm : m ≤ 50000) :
    Calls Tryz.prog 53 #[.pointer (some ⟨b, 0, none⟩)] w fun e w' => e = .returned (.int .i64 d.flush.2) ∧ DiskAt B w' b g d.flush.1 ∧ On B w w' := by
  unfold Dk.flush
  cases hd : d.dead with
  | true =>
    refine (flush_dead h hd).mono ?_
    rintro e w' ⟨rfl, rfl⟩
    exact ⟨rfl, h, On.refl _ _⟩
  | false =>
    have hact := act_walk h hB ok.to' hm
    have hok := act_ok' ok.to'
    have hw := hok.waits
    have ha' := hok.acts
    cases ha : d.act.2 with
    | true =>
      rw [ha] at hact
      exact flush_cut h hd hact
    | false =>
      rw [ha] at hact
      exact flush_ok h hB hd hact (by omega) hok.secs
end Go.Proofs.YthlhnjjofefgcaaGreatDoor.D
