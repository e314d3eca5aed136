/- The reference's disk in plain words, and that the program's disk and the reference's go together: whatever is read, written and flushed, and wherever the power fails. Conditions: the program's disk is whole (Ok). -/
import Derived.Test.YtfnfdngenohhhaaWalkN
namespace Go.Proofs.Ytfnfdngenohhhaa

/-- The reference's disk. -/
structure R where
  S : List ByteArray
  torn : List Bool
  wait : List Wr
  cuts : List Ct
  acts : Nat
  all : Nat
  fails : Nat
  dead : Bool

def R.settle (q : R) (x : Wr) (f : Nat) : R := if f = 0 then q else { q with S := q.S.set x.sec x.bytes, torn := q.torn.set x.sec (f == 2) }
def R.settled (q : R) (l : List Wr) (f : Nat → Nat) : Nat → R
  | 0 => q
  | k + 1 => match l[k]? with
    | none => R.settled q l f k
    | some x => (R.settled q l f k).settle x (f k)
def R.begin (q : R) : R := { q with acts := q.acts + 1, all := q.all + 1 }
def R.fail (q : R) (c : Ct) (r : List Ct) : R := { R.settled q q.wait (fateOf c) q.wait.length with wait := [], cuts := r, dead := true, fails := q.fails + 1 }
def R.act (q : R) : R × Bool := match q.cuts with
  | [] => (q.begin, false)
  | c :: r => if (q.acts : Int) < c.at_ then (q.begin, false) else (q.begin.fail c r, true)
def R.good (q : R) : R := { R.settled q q.wait (fun _ => 1) q.wait.length with wait := [] }
def R.up (q : R) : R := if q.dead then { q with dead := false, acts := 0 } else q

/-- What was written last of a sector. -/
def lastOf : List Wr → Nat → Option ByteArray
  | [], _ => none
  | x :: r, i => match lastOf r i with
    | some b => some b
    | none => if x.sec = i then some x.bytes else none

/-- What a sector says that was never written. -/
def norm (s : ByteArray) : ByteArray := if s.size = 0 then whole ⟨#[]⟩ else s

def R.says (q : R) (n : Nat) : ByteArray × Int := match lastOf q.wait n with
  | some b => (b, 0)
  | none => if q.torn.getD n false then (⟨#[]⟩, 41) else (norm (q.S.getD n ⟨#[]⟩), 0)
def R.read (q : R) (n : Int) : R × ByteArray × Int :=
  if q.dead then (q, ⟨#[]⟩, 40) else if ¬ (0 ≤ n ∧ n < (q.S.length : Int)) then (q, ⟨#[]⟩, 42) else
    if q.act.2 then (q.act.1, ⟨#[]⟩, 40) else (q.act.1, q.act.1.says n.toNat)
def R.add (q : R) (x : Wr) : R := { q with wait := q.wait ++ [x] }
def R.write (q : R) (n : Int) (s : ByteArray) : R × Int :=
  if q.dead then (q, 40) else if ¬ (0 ≤ n ∧ n < (q.S.length : Int)) then (q, 42) else if 256 < s.size then (q, 1) else
    (((q.add ⟨n.toNat, whole s⟩).act).1, if ((q.add ⟨n.toNat, whole s⟩).act).2 then 40 else 0)
def R.flush (q : R) : R × Int := if q.dead then (q, 40) else if q.act.2 then (q.act.1, 40) else (q.act.1.good, 0)

theorem lastOf_append (a b : List Wr) (i : Nat) : lastOf (a ++ b) i = match lastOf b i with | some x => some x | none => lastOf a i := by
  induction a with
  | nil => simp only [List.nil_append, lastOf]; cases lastOf b i <;> rfl
  | cons x r ih =>
    simp only [List.cons_append, lastOf, ih]
    cases lastOf b i <;> rfl
theorem lastOf_snoc (a : List Wr) (x : Wr) (i : Nat) : lastOf (a ++ [x]) i = if x.sec = i then some x.bytes else lastOf a i := by
  rw [lastOf_append]
  simp only [lastOf]
  split <;> simp_all
theorem lastOf_set_ne (i : Nat) (x y : Wr) (hx : x.sec ≠ i) (hy : y.sec ≠ i) : ∀ (l : List Wr) (j : Nat), l[j]? = some y → lastOf (l.set j x) i = lastOf l i
  | [], j, h => by simp at h
  | z :: r, 0, h => by
    simp at h
    subst h
    simp only [List.set_cons_zero, lastOf, hx, hy, if_false]
  | z :: r, j + 1, h => by
    have := lastOf_set_ne i x y hx hy r j (by simpa using h)
    simp only [List.set_cons_succ, lastOf, this]
theorem lastOf_at (i : Nat) : ∀ (l : List Wr) (j : Nat) (h : j < l.length), lastOf (l.drop (j + 1)) i = none → l[j].sec = i → lastOf l i = some l[j].bytes
  | z :: r, 0, _, hd, he => by
    simp only [List.drop_succ_cons, List.drop_zero] at hd
    simp only [List.getElem_cons_zero] at he ⊢
    simp [lastOf, hd, he]
  | z :: r, j + 1, h, hd, he => by
    have := lastOf_at i r j (by simpa using h) (by simpa using hd) (by simpa using he)
    simp only [lastOf, this, List.getElem_cons_succ]
theorem lastOf_mem (i : Nat) : ∀ (l : List Wr) (b : ByteArray), lastOf l i = some b → ∃ x ∈ l, x.sec = i ∧ x.bytes = b
  | [], b, h => by simp [lastOf] at h
  | z :: r, b, h => by
    simp only [lastOf] at h
    cases hr : lastOf r i with
    | some c =>
      rw [hr] at h
      simp only [Option.some.injEq] at h
      subst h
      obtain ⟨x, hx, h1, h2⟩ := lastOf_mem i r c hr
      exact ⟨x, by simp [hx], h1, h2⟩
    | none =>
      rw [hr] at h
      simp only at h
      split at h
      · rename_i he
        simp only [Option.some.injEq] at h
        exact ⟨z, by simp, he, h⟩
      · cases h

/-- What a sector is when so many writes are settled. -/
def eff (l : List Wr) (f : Nat → Nat) (i : Nat) (init : ByteArray × Bool) : Nat → ByteArray × Bool
  | 0 => init
  | k + 1 => match l[k]? with
    | none => eff l f i init k
    | some x => if x.sec = i then (if f k = 0 then eff l f i init k else (x.bytes, f k == 2)) else eff l f i init k

theorem settled_eff (l : List Wr) (f : Nat → Nat) (s : List Sec) (i : Nat) (h' : i < s.length) : ∀ k (h : i < (settled l f s k).length), ((settled l f s k)[i].kept, (settled l f s k)[i].torn) = eff l f i (s[i].kept, s[i].torn) k
  | 0, h => rfl
  | k + 1, h => by
    have hi : i < (settled l f s k).length := by rw [settled_length]; exact h'
    have ih := settled_eff l f s i h' k hi
    cases hx : l[k]? with
    | none =>
      simp only [settled, hx, eff] at h ⊢
      exact ih
    | some x =>
      simp only [settled, hx, eff] at h ⊢
      rw [List.getElem_modify]
      by_cases he : x.sec = i
      · rw [if_pos he, if_pos he]
        unfold settle1
        by_cases hf : f k = 0
        · simp only [hf, if_true]; exact ih
        · simp only [hf, if_false]
      · rw [if_neg he, if_neg he]
        exact ih

theorem rsettled_len (q : R) (l : List Wr) (f : Nat → Nat) : ∀ k, (R.settled q l f k).S.length = q.S.length ∧ (R.settled q l f k).torn.length = q.torn.length ∧ (R.settled q l f k).wait = q.wait ∧ (R.settled q l f k).cuts = q.cuts ∧ (R.settled q l f k).acts = q.acts ∧ (R.settled q l f k).all = q.all ∧ (R.settled q l f k).fails = q.fails ∧ (R.settled q l f k).dead = q.dead
  | 0 => ⟨rfl, rfl, rfl, rfl, rfl, rfl, rfl, rfl⟩
  | k + 1 => by
    have ih := rsettled_len q l f k
    cases hx : l[k]? with
    | none => simp only [R.settled, hx]; exact ih
    | some x =>
      simp only [R.settled, hx, R.settle]
      split
      · exact ih
      · simpa using ih

theorem rsettled_eff (q : R) (l : List Wr) (f : Nat → Nat) (hl : ∀ x ∈ l, x.bytes.size = 256) (i : Nat) (h1 : i < q.S.length) (h2 : i < q.torn.length) : ∀ k, (norm ((R.settled q l f k).S.getD i ⟨#[]⟩), (R.settled q l f k).torn.getD i false) = eff l f i (norm (q.S.getD i ⟨#[]⟩), q.torn.getD i false) k
  | 0 => rfl
  | k + 1 => by
    have ih := rsettled_eff q l f hl i h1 h2 k
    obtain ⟨e1, e2, _⟩ := rsettled_len q l f k
    cases hx : l[k]? with
    | none => simp only [R.settled, hx, eff]; exact ih
    | some x =>
      simp only [R.settled, hx, eff, R.settle]
      by_cases hf : f k = 0
      · simp only [hf, if_true]
        rw [ih]
        split <;> rfl
      · simp only [hf, if_false]
        by_cases he : x.sec = i
        · subst he
          have hb := hl x (List.mem_of_getElem? hx)
          simp only [if_true]
          rw [List.getD_eq_getElem?_getD, List.getElem?_set_self (by omega), List.getD_eq_getElem?_getD, List.getElem?_set_self (by omega)]
          simp [norm, hb]
        · simp only [he, if_false]
          rw [List.getD_eq_getElem?_getD, List.getElem?_set_ne he, List.getD_eq_getElem?_getD, List.getElem?_set_ne he, ← List.getD_eq_getElem?_getD, ← List.getD_eq_getElem?_getD]
          exact ih

theorem eff_congr (l l' : List Wr) (f : Nat → Nat) (i : Nat) (init : ByteArray × Bool) : ∀ m, (∀ k, k < m → l[k]? = l'[k]?) → eff l f i init m = eff l' f i init m
  | 0, _ => rfl
  | m + 1, h => by
    have ih := eff_congr l l' f i init m (fun k hk => h k (by omega))
    simp only [eff, h m (by omega), ih]

/-- Behind the fates nothing turns. -/
theorem eff_more (l : List Wr) (f : Nat → Nat) (i : Nat) (init : ByteArray × Bool) (F : Nat) (hf : ∀ k, F ≤ k → k < l.length → f k = 0) : ∀ n, eff l f i init (F + n) = eff l f i init F
  | 0 => rfl
  | n + 1 => by
    have ih := eff_more l f i init F hf n
    show eff l f i init (F + n + 1) = _
    cases hx : l[F + n]? with
    | none => simp only [eff, hx]; exact ih
    | some x =>
      have hlt : F + n < l.length := (List.getElem?_eq_some_iff.1 hx).1
      simp only [eff, hx, hf (F + n) (by omega) hlt, if_true]
      rw [ih]
      split <;> rfl
theorem eff_end (l : List Wr) (f : Nat → Nat) (i : Nat) (init : ByteArray × Bool) (n : Nat) : eff l f i init (l.length + n) = eff l f i init l.length :=
  eff_more l f i init l.length (fun k h1 h2 => absurd h2 (by omega)) n
theorem eff_fates (l : List Wr) (f : Nat → Nat) (i : Nat) (init : ByteArray × Bool) (F : Nat) (hf : ∀ k, F ≤ k → f k = 0) : eff l f i init l.length = eff l f i init F := by
  rcases Nat.le_total F l.length with h | h
  · have := eff_more l f i init F (fun k h1 _ => hf k h1) (l.length - F)
    rwa [show F + (l.length - F) = l.length by omega] at this
  · have := eff_end l f i init (F - l.length)
    rw [show l.length + (F - l.length) = F by omega] at this
    exact this.symm

theorem eff_ones (l : List Wr) (i : Nat) (init : ByteArray × Bool) : ∀ k, k ≤ l.length → eff l (fun _ => 1) i init k = match lastOf (l.take k) i with | some b => (b, false) | none => init
  | 0, _ => by simp [eff, lastOf]
  | k + 1, h => by
    have ih := eff_ones l i init k (by omega)
    have hk : k < l.length := by omega
    have hx : l[k]? = some l[k] := List.getElem?_eq_getElem hk
    rw [List.take_succ_eq_append_getElem hk, lastOf_snoc]
    simp only [eff, hx]
    by_cases he : l[k].sec = i
    · simp [he]
    · simp only [he, if_false]; exact ih

/-- The program's disk and the reference's. -/
structure Sim (e : Nat) (d : Dk) (q : R) : Prop where
  len : q.S.length = d.secs.length
  lenT : q.torn.length = d.secs.length
  sec : ∀ i (h : i < d.secs.length), (d.secs[i].kept, d.secs[i].torn) = (norm (q.S.getD i ⟨#[]⟩), q.torn.getD i false)
  cuts : q.cuts = d.cuts
  acts : q.acts = d.since
  all : q.all = d.acts
  fails : q.fails = d.fails
  dead : q.dead = d.dead
  big : ∀ x ∈ q.wait, x.bytes.size = 256
  bound : ∀ x ∈ q.wait, x.sec < d.secs.length
  head : ∀ k, k < d.fated → d.waits[k]? = q.wait[k]?
  lasts : ∀ i, lastOf d.waits i = lastOf q.wait i
  zero : ∀ i (h : i < d.secs.length), d.secs[i].last = 0 → lastOf d.waits i = none
  some_ : ∀ i (h : i < d.secs.length) p, d.secs[i].last = p + 1 → ∃ x, d.waits[p]? = some x ∧ x.sec = i ∧ lastOf (d.waits.drop (p + 1)) i = none
  count : q.wait.length ≤ q.all + e

theorem sim_lens {e : Nat} {d : Dk} {q : R} (h : Sim e d q) (hl : d.waits.length < d.fated) : q.wait.length = d.waits.length := by
  have h1 := h.head d.waits.length hl
  rw [List.getElem?_eq_none (Nat.le_refl _)] at h1
  have h2 : q.wait.length ≤ d.waits.length := List.getElem?_eq_none_iff.1 h1.symm
  rcases Nat.eq_zero_or_pos d.waits.length with e | e
  · omega
  · have h3 := h.head (d.waits.length - 1) (by omega)
    rw [List.getElem?_eq_getElem (show d.waits.length - 1 < d.waits.length by omega)] at h3
    have := (List.getElem?_eq_some_iff.1 h3.symm).1
    omega

theorem begin_sim {d : Dk} {q : R} (h : Sim 1 d q) : Sim 0 d.begin q.begin :=
  ⟨h.len, h.lenT, h.sec, h.cuts, by show q.acts + 1 = d.since + 1; rw [h.acts], by show q.all + 1 = d.acts + 1; rw [h.all], h.fails, h.dead, h.big, h.bound, h.head, h.lasts, h.zero, h.some_, h.count⟩

theorem up_sim {d : Dk} {q : R} (h : Sim 0 d q) : Sim 0 d.up q.up := by
  unfold Dk.up R.up
  rw [h.dead]
  split
  · exact ⟨h.len, h.lenT, h.sec, h.cuts, rfl, h.all, h.fails, rfl, h.big, h.bound, h.head, h.lasts, h.zero, h.some_, h.count⟩
  · exact h

theorem fail_sim {m : Nat} {d : Dk} {q : R} (h : Sim 0 d q) (ok : Ok m d) (c : Ct) (r : List Ct) (hc : d.cuts = c :: r) : Sim 0 (d.fail c r) (q.fail c r) := by
  have hl := settled_length d.waits (fateOf c) d.secs d.waits.length
  obtain ⟨e1, e2, _, e4, e5, e6, e7, e8⟩ := rsettled_len q q.wait (fateOf c) q.wait.length
  have hF : d.fated = c.fates.length := by simp [Dk.fated, hc]
  have hz : ∀ k, d.fated ≤ k → fateOf c k = 0 := by intro k hk; unfold fateOf; rw [if_neg (by omega)]
  refine ⟨?_, ?_, fun i hi => ?_, rfl, ?_, ?_, ?_, rfl, ?_, ?_, fun k _ => rfl, fun i => rfl, fun i hi _ => rfl, fun i hi p hp => ?_, Nat.zero_le _⟩
  · show (R.settled _ _ _ _).S.length = (settled _ _ _ _).length
    rw [hl, e1, h.len]
  · show (R.settled _ _ _ _).torn.length = (settled _ _ _ _).length
    rw [hl, e2, h.lenT]
  · have hi' : i < d.secs.length := by have : (d.fail c r).secs.length = d.secs.length := hl; omega
    have a1 := settled_eff d.waits (fateOf c) d.secs i hi' d.waits.length (by rw [hl]; exact hi')
    have a2 := rsettled_eff q q.wait (fateOf c) h.big i (by rw [h.len]; exact hi') (by rw [h.lenT]; exact hi') q.wait.length
    rw [eff_fates _ _ _ _ d.fated hz] at a1 a2
    rw [← h.sec i hi', ← eff_congr d.waits q.wait (fateOf c) i _ d.fated (fun k hk => h.head k hk), ← a1] at a2
    exact a2.symm
  · show (R.settled _ _ _ _).acts = d.since
    rw [e5, h.acts]
  · show (R.settled _ _ _ _).all = d.acts
    rw [e6, h.all]
  · show q.fails + 1 = d.fails + 1
    rw [h.fails]
  · intro x hx; simp [R.fail] at hx
  · intro x hx; simp [R.fail] at hx
  · rw [show (d.fail c r).secs[i].last = 0 from settled_zero ok _ i hi] at hp; omega

theorem good_sim {m : Nat} {d : Dk} {q : R} (h : Sim 0 d q) (ok : Ok m d) : Sim 0 d.good q.good := by
  have hl := settled_length d.waits (fun _ => 1) d.secs d.waits.length
  obtain ⟨e1, e2, _, e4, e5, e6, e7, e8⟩ := rsettled_len q q.wait (fun _ => 1) q.wait.length
  refine ⟨?_, ?_, fun i hi => ?_, ?_, ?_, ?_, ?_, ?_, ?_, ?_, fun k _ => rfl, fun i => rfl, fun i hi _ => rfl, fun i hi p hp => ?_, Nat.zero_le _⟩
  · show (R.settled _ _ _ _).S.length = (settled _ _ _ _).length
    rw [hl, e1, h.len]
  · show (R.settled _ _ _ _).torn.length = (settled _ _ _ _).length
    rw [hl, e2, h.lenT]
  · have hi' : i < d.secs.length := by have : d.good.secs.length = d.secs.length := hl; omega
    have a1 := settled_eff d.waits (fun _ => 1) d.secs i hi' d.waits.length (by rw [hl]; exact hi')
    have a2 := rsettled_eff q q.wait (fun _ => 1) h.big i (by rw [h.len]; exact hi') (by rw [h.lenT]; exact hi') q.wait.length
    rw [eff_ones _ _ _ _ (Nat.le_refl _), List.take_length] at a1 a2
    rw [← h.sec i hi', ← h.lasts i, ← a1] at a2
    exact a2.symm
  · show (R.settled _ _ _ _).cuts = d.cuts
    rw [e4, h.cuts]
  · show (R.settled _ _ _ _).acts = d.since
    rw [e5, h.acts]
  · show (R.settled _ _ _ _).all = d.acts
    rw [e6, h.all]
  · show (R.settled _ _ _ _).fails = d.fails
    rw [e7, h.fails]
  · show (R.settled _ _ _ _).dead = d.dead
    rw [e8, h.dead]
  · intro x hx; simp [R.good] at hx
  · intro x hx; simp [R.good] at hx
  · rw [show d.good.secs[i].last = 0 from settled_zero ok _ i hi] at hp; omega

theorem Sim.more {d : Dk} {q : R} (h : Sim 0 d q) : Sim 1 d q :=
  ⟨h.len, h.lenT, h.sec, h.cuts, h.acts, h.all, h.fails, h.dead, h.big, h.bound, h.head, h.lasts, h.zero, h.some_, Nat.le_succ_of_le h.count⟩

theorem act_sim {m : Nat} {d : Dk} {q : R} (h : Sim 1 d q) (ok : Ok' m d) : q.act.2 = d.act.2 ∧ Sim 0 d.act.1 q.act.1 := by
  have hb := begin_sim h
  unfold Dk.act R.act
  rw [h.cuts]
  cases hc : d.cuts with
  | nil => exact ⟨rfl, hb⟩
  | cons c r =>
    simp only [h.acts]
    split
    · exact ⟨rfl, hb⟩
    · exact ⟨rfl, fail_sim hb (begin_ok' ok) c r hc⟩

theorem add_sim {d : Dk} {q : R} (h : Sim 0 d q) (x : Wr) (hx : x.sec < d.secs.length) (hb : x.bytes.size = 256) : Sim 1 (d.wait x) (q.add x) := by
  have hbig : ∀ y ∈ (q.add x).wait, y.bytes.size = 256 := by
    intro y hy
    simp only [R.add, List.mem_append, List.mem_singleton] at hy
    rcases hy with hy | rfl
    · exact h.big y hy
    · exact hb
  have hbd : ∀ y ∈ (q.add x).wait, y.sec < d.secs.length := by
    intro y hy
    simp only [R.add, List.mem_append, List.mem_singleton] at hy
    rcases hy with hy | rfl
    · exact h.bound y hy
    · exact hx
  have hcount : (q.add x).wait.length ≤ (q.add x).all + 1 := by
    simp only [R.add, List.length_append, List.length_singleton]
    exact Nat.succ_le_succ h.count
  have he : d.wait x = if d.secs[x.sec].last ≤ d.fated then { d with waits := d.waits ++ [x], secs := d.secs.modify x.sec fun s => { s with last := d.waits.length + 1 } } else { d with waits := d.waits.set (d.secs[x.sec].last - 1) x } := by
    unfold Dk.wait; rw [List.getElem?_eq_getElem hx]
  rw [he]
  split
  · refine ⟨h.len.trans (by simp), h.lenT.trans (by simp), fun i hi => ?_, h.cuts, h.acts, h.all, h.fails, h.dead, hbig, by simpa using hbd, fun k hk => ?_, fun i => ?_, fun i hi hz => ?_, fun i hi p hp => ?_, hcount⟩
    · have hi' : i < d.secs.length := by simpa using hi
      refine Eq.trans ?_ (h.sec i hi')
      simp only [List.getElem_modify]
      split <;> rfl
    · have hk' : k < d.fated := hk
      show (d.waits ++ [x])[k]? = (q.wait ++ [x])[k]?
      rw [List.getElem?_append, List.getElem?_append]
      have h1 := h.head k hk'
      by_cases hkd : k < d.waits.length
      · rw [if_pos hkd]
        rw [List.getElem?_eq_getElem hkd] at h1
        have hkq := (List.getElem?_eq_some_iff.1 h1.symm).1
        rw [if_pos hkq, List.getElem?_eq_getElem hkd, h1]
      · have hl := sim_lens h (by omega)
        rw [if_neg hkd, if_neg (by omega), hl]
    · show lastOf (d.waits ++ [x]) i = lastOf (q.wait ++ [x]) i
      rw [lastOf_snoc, lastOf_snoc, h.lasts i]
    · have hi' : i < d.secs.length := by simpa using hi
      simp only [List.getElem_modify] at hz
      show lastOf (d.waits ++ [x]) i = none
      rw [lastOf_snoc]
      split at hz
      · simp at hz
      · rename_i hne
        rw [if_neg hne]
        exact h.zero i hi' hz
    · have hi' : i < d.secs.length := by simpa using hi
      simp only [List.getElem_modify] at hp
      show ∃ y, (d.waits ++ [x])[p]? = some y ∧ y.sec = i ∧ lastOf ((d.waits ++ [x]).drop (p + 1)) i = none
      split at hp
      · rename_i hei
        have hp' : p = d.waits.length := by simp only at hp; omega
        subst hp'
        refine ⟨x, by simp, hei, ?_⟩
        rw [List.drop_of_length_le (by simp)]
        rfl
      · rename_i hne
        obtain ⟨y, h1, h2, h3⟩ := h.some_ i hi' p hp
        have hpl : p < d.waits.length := (List.getElem?_eq_some_iff.1 h1).1
        refine ⟨y, by rw [List.getElem?_append_left hpl]; exact h1, h2, ?_⟩
        rw [List.drop_append_of_le_length (by omega), lastOf_snoc, if_neg hne]
        exact h3
  · rename_i hl
    rcases hlx : d.secs[x.sec].last with _ | p0
    · rw [hlx] at hl; omega
    · rw [hlx] at hl
      rw [Nat.add_sub_cancel]
      obtain ⟨y, y1, y2, y3⟩ := h.some_ x.sec hx p0 hlx
      have hp0 : p0 < d.waits.length := (List.getElem?_eq_some_iff.1 y1).1
      have hother : ∀ i (hi : i < d.secs.length) p, d.secs[i].last = p + 1 → p ≠ p0 → x.sec ≠ i := by
        intro i hi p hp hne e
        subst e
        rw [hlx] at hp
        omega
      refine ⟨h.len, h.lenT, h.sec, h.cuts, h.acts, h.all, h.fails, h.dead, hbig, hbd, fun k hk => ?_, fun i => ?_, fun i hi hz => ?_, fun i hi p hp => ?_, hcount⟩
      · have hk' : k < d.fated := hk
        show (d.waits.set p0 x)[k]? = (q.wait ++ [x])[k]?
        have h1 := h.head k hk'
        rw [List.getElem?_set_ne (by omega)]
        rw [List.getElem?_eq_getElem (show k < d.waits.length by omega)] at h1 ⊢
        have hkq := (List.getElem?_eq_some_iff.1 h1.symm).1
        rw [List.getElem?_append_left hkq, h1]
      · show lastOf (d.waits.set p0 x) i = lastOf (q.wait ++ [x]) i
        rw [lastOf_snoc, ← h.lasts i]
        by_cases hei : x.sec = i
        · subst hei
          rw [if_pos rfl]
          have := lastOf_at x.sec (d.waits.set p0 x) p0 (by simpa using hp0) (by rw [List.drop_set_of_lt (by omega)]; exact y3) (by simp)
          rw [this]; simp
        · rw [if_neg hei]
          exact lastOf_set_ne i x y hei (by rw [y2]; exact hei) d.waits p0 y1
      · show lastOf (d.waits.set p0 x) i = none
        have hne : x.sec ≠ i := by intro e; subst e; rw [hlx] at hz; omega
        rw [lastOf_set_ne i x y hne (by rw [y2]; exact hne) d.waits p0 y1]
        exact h.zero i hi hz
      · show ∃ z, (d.waits.set p0 x)[p]? = some z ∧ z.sec = i ∧ lastOf ((d.waits.set p0 x).drop (p + 1)) i = none
        obtain ⟨z, z1, z2, z3⟩ := h.some_ i hi p hp
        by_cases hpp : p = p0
        · subst hpp
          have : z = y := by rw [y1] at z1; exact (Option.some.inj z1).symm
          subst this
          refine ⟨x, by rw [List.getElem?_set_self hp0], y2.symm.trans z2, ?_⟩
          rw [List.drop_set_of_lt (by omega)]
          exact z3
        · have hne := hother i hi p hp hpp
          refine ⟨z, by rw [List.getElem?_set_ne (Ne.symm hpp)]; exact z1, z2, ?_⟩
          by_cases hlt : p0 < p + 1
          · rw [List.drop_set_of_lt hlt]; exact z3
          · rw [List.drop_set, if_neg hlt, lastOf_set_ne i x y hne (by rw [y2]; exact hne) _ _ (by rw [List.getElem?_drop, show p + 1 + (p0 - (p + 1)) = p0 by omega]; exact y1)]
            exact z3

theorem write_sim {m : Nat} {d : Dk} {q : R} (h : Sim 0 d q) (ok : Ok m d) (n : Int) (s : ByteArray) : (q.write n s).2 = (d.write n s).2 ∧ Sim 0 (d.write n s).1 (q.write n s).1 := by
  unfold Dk.write R.write
  rw [h.dead, h.len]
  split
  · exact ⟨rfl, h⟩
  · split
    · exact ⟨rfl, h⟩
    · rename_i hn
      split
      · exact ⟨rfl, h⟩
      · rename_i hs
        have hx : (⟨n.toNat, whole s⟩ : Wr).sec < d.secs.length := by show n.toNat < _; omega
        obtain ⟨a1, a2⟩ := act_sim (add_sim h ⟨n.toNat, whole s⟩ hx (whole_size s (by omega))) (wait_ok ok ⟨n.toNat, whole s⟩ hx)
        exact ⟨by rw [a1], a2⟩

theorem says_sim {d : Dk} {q : R} (h : Sim 0 d q) (n : Nat) (hn : n < d.secs.length) : q.says n = d.says n := by
  unfold Dk.says R.says
  rw [List.getElem?_eq_getElem hn, ← h.lasts n]
  dsimp only
  have hs := h.sec n hn
  simp only [Prod.mk.injEq] at hs
  rcases hl : d.secs[n].last with _ | p
  · rw [h.zero n hn hl, ← hs.1, ← hs.2]
  · obtain ⟨x, x1, x2, x3⟩ := h.some_ n hn p hl
    have hp : p < d.waits.length := (List.getElem?_eq_some_iff.1 x1).1
    have hxp : d.waits[p] = x := by rw [List.getElem?_eq_getElem hp] at x1; exact Option.some.inj x1
    have := lastOf_at n d.waits p hp x3 (by rw [hxp]; exact x2)
    rw [this]
    show (d.waits[p].bytes, (0 : Int)) = match d.waits[p]? with | none => (⟨#[]⟩, 42) | some x => (x.bytes, 0)
    rw [x1, hxp]

theorem act_len (d : Dk) : d.act.1.secs.length = d.secs.length := by
  unfold Dk.act
  split
  · rfl
  · split
    · rfl
    · exact settled_length _ _ _ _

theorem read_sim {m : Nat} {d : Dk} {q : R} (h : Sim 0 d q) (ok : Ok m d) (n : Int) : (q.read n).2 = (d.read n).2 ∧ Sim 0 (d.read n).1 (q.read n).1 := by
  obtain ⟨a1, a2⟩ := act_sim h.more ok.to'
  have hok := act_ok' ok.to'
  unfold Dk.read R.read
  rw [h.dead, h.len]
  split
  · exact ⟨rfl, h⟩
  · split
    · exact ⟨rfl, h⟩
    · rename_i hn
      rw [a1]
      split
      · exact ⟨rfl, a2⟩
      · exact ⟨says_sim a2 n.toNat (by rw [act_len]; omega), a2⟩

theorem flush_sim {m : Nat} {d : Dk} {q : R} (h : Sim 0 d q) (ok : Ok m d) : q.flush.2 = d.flush.2 ∧ Sim 0 d.flush.1 q.flush.1 := by
  obtain ⟨a1, a2⟩ := act_sim h.more ok.to'
  have hok := act_ok' ok.to'
  unfold Dk.flush R.flush
  rw [h.dead, a1]
  split
  · exact ⟨rfl, h⟩
  · split
    · exact ⟨rfl, a2⟩
    · exact ⟨rfl, good_sim a2 hok⟩

theorem Ok.mono {m m' : Nat} {d : Dk} (h : Ok m d) (hm : m ≤ m') : Ok m' d := ⟨h.secs, h.last, h.waits, Nat.le_trans h.acts hm, h.since, h.fails⟩
theorem write_okk {m : Nat} {d : Dk} (ok : Ok m d) (n : Int) (s : ByteArray) : Ok (m + 1) (d.write n s).1 := by
  unfold Dk.write
  split
  · exact ok.mono (Nat.le_succ _)
  · split
    · exact ok.mono (Nat.le_succ _)
    · split
      · exact ok.mono (Nat.le_succ _)
      · rename_i hn _
        exact act_ok' (wait_ok ok ⟨n.toNat, whole s⟩ (by show n.toNat < _; omega))
theorem read_okk {m : Nat} {d : Dk} (ok : Ok m d) (n : Int) : Ok (m + 1) (d.read n).1 := by
  have hok := act_ok' ok.to'
  unfold Dk.read
  split
  · exact ok.mono (Nat.le_succ _)
  · split
    · exact ok.mono (Nat.le_succ _)
    · split
      · exact hok
      · exact hok
theorem flush_okk {m : Nat} {d : Dk} (ok : Ok m d) : Ok (m + 1) d.flush.1 := by
  have hok := act_ok' ok.to'
  unfold Dk.flush
  split
  · exact ok.mono (Nat.le_succ _)
  · split
    · exact hok
    · exact good_ok hok

/-- New ones. -/
theorem new_sim (n : Nat) (l : List Ct) : Sim 0 (Dk.new n l) ⟨List.replicate n ⟨#[]⟩, List.replicate n false, [], l, 0, 0, 0, false⟩ := by
  refine ⟨by simp [Dk.new], by simp [Dk.new], fun i hi => ?_, rfl, rfl, rfl, rfl, rfl, fun x hx => by simp at hx, fun x hx => by simp at hx, fun k _ => rfl, fun i => rfl, fun i hi _ => rfl, fun i hi p hp => ?_, Nat.le_refl _⟩
  · have hi' : i < n := by simpa [Dk.new] using hi
    simp only [Dk.new, List.getElem_replicate, Prod.mk.injEq]
    rw [List.getD_eq_getElem?_getD, List.getElem?_replicate, if_pos hi', List.getD_eq_getElem?_getD, List.getElem?_replicate, if_pos hi']
    exact ⟨rfl, rfl⟩
  · simp [Dk.new] at hp
end Go.Proofs.Ytfnfdngenohhhaa
