/- Disks in plain words: what is written and flushed, what is left when the power fails. No condition but those that each row names. -/
import Derived.Test.YthlhnjjofefgcaaGreatDoorGWalkJ
namespace Go.Proofs.YthlhnjjofefgcaaGreatDoor.G
open D (Dk Ok Sec Wr Ct settled settle1 whole)

/-- So many acts can be done before the power fails. -/
structure Liv (d : Dk) (k : Nat) : Prop where
  up : d.dead = false
  far : ∀ c r, d.cuts = c :: r → ((d.since + k : Nat) : Int) ≤ c.at_

theorem Liv.act {d : Dk} (h : Liv d 1) : d.act = (d.begin, false) := by
  unfold Dk.act
  split
  · rfl
  · rename_i c r hc
    have := h.far c r hc
    rw [if_pos (by omega)]
theorem Liv.mono {d : Dk} {k j : Nat} (h : Liv d k) (hj : j ≤ k) : Liv d j := ⟨h.up, fun c r hc => by have := h.far c r hc; omega⟩

theorem wait_live {d : Dk} {x : Wr} {k : Nat} (h : Liv d k) : Liv (d.wait x) k := by
  obtain ⟨e1, e2, e3, e4, e5, e6⟩ := D.wait_fields d x
  exact ⟨e5.trans h.up, fun c r hc => by rw [e3]; exact h.far c r (e1 ▸ hc)⟩
theorem begin_live {d : Dk} {k : Nat} (h : Liv d (k + 1)) : Liv d.begin k := ⟨h.up, fun c r hc => by have := h.far c r hc; show ((d.since + 1 + k : Nat) : Int) ≤ _; omega⟩

theorem write_live {d : Dk} (h : Liv d 1) (n : Nat) (hn : n < d.secs.length) (s : ByteArray) (hs : s.size ≤ 256) : d.write (n : Nat) s = ((d.wait ⟨n, whole s⟩).begin, 0) := by
  unfold Dk.write
  have e := (wait_live (x := ⟨n, whole s⟩) h).act
  rw [if_neg (by simp [h.up]), if_neg (by omega), if_neg (by omega)]
  have e2 : ((n : Nat) : Int).toNat = n := by omega
  rw [e2, e]
  rfl
theorem flush_live {d : Dk} (h : Liv d 1) : d.flush = (d.begin.good, 0) := by
  unfold Dk.flush
  rw [if_neg (by simp [h.up]), h.act]
  rfl
theorem read_live {d : Dk} (h : Liv d 1) (n : Nat) (hn : n < d.secs.length) : d.read (n : Nat) = (d.begin, d.begin.says n) := by
  unfold Dk.read
  rw [if_neg (by simp [h.up]), if_neg (by omega), h.act]
  have e2 : ((n : Nat) : Int).toNat = n := by omega
  rw [e2]
  rfl

/-- Nothing waits. -/
structure Flu (d : Dk) : Prop where
  waits : d.waits = []
  last : ∀ (i : Nat) (s : Sec), d.secs[i]? = some s → s.last = 0
  up : d.dead = false

/-- What waits since all was flushed: writes of sectors that differ. -/
structure Pend (d0 : Dk) (ws : List Wr) (d : Dk) : Prop where
  waits : d.waits = ws
  len : d.secs.length = d0.secs.length
  inn : ∀ x ∈ ws, x.sec < d0.secs.length
  nd : ws.Pairwise (fun x y => x.sec ≠ y.sec)
  oth : ∀ i, (∀ x ∈ ws, x.sec ≠ i) → d.secs[i]? = d0.secs[i]?
  own : ∀ x ∈ ws, ∃ (s0 : Sec) (q : Nat), d0.secs[x.sec]? = some s0 ∧ d.secs[x.sec]? = some { s0 with last := q }
  cuts : d.cuts = d0.cuts
  up : d.dead = false
  fails : d.fails = d0.fails
  since : d.since = d0.since + ws.length

theorem Pend.nil {d : Dk} (h : Flu d) : Pend d [] d := ⟨h.waits, rfl, (by intro _ h; cases h), List.Pairwise.nil, fun _ _ => rfl, (by intro _ h; cases h), rfl, h.up, rfl, rfl⟩

theorem Pend.write {d0 d : Dk} {ws : List Wr} (h : Pend d0 ws d) (h0 : Flu d0) (x : Wr) (hx : x.sec < d0.secs.length) (hne : ∀ y ∈ ws, y.sec ≠ x.sec) : Pend d0 (ws ++ [x]) (d.wait x).begin := by
  have hx' : x.sec < d.secs.length := by rw [h.len]; exact hx
  have e0 := h.oth x.sec (fun y hy => hne y hy)
  obtain ⟨s0, hs0⟩ : ∃ s0, d0.secs[x.sec]? = some s0 := ⟨_, List.getElem?_eq_getElem hx⟩
  have hs := e0.trans hs0
  have hl := h0.last _ _ hs0
  have ew : d.wait x = { d with waits := d.waits ++ [x], secs := d.secs.modify x.sec fun s => { s with last := d.waits.length + 1 } } := by
    unfold Dk.wait
    rw [hs]
    dsimp only
    rw [if_pos (by rw [hl]; exact Nat.zero_le _)]
  rw [ew]
  have other : ∀ i, x.sec ≠ i → (d.secs.modify x.sec fun s => { s with last := d.waits.length + 1 })[i]? = d.secs[i]? := fun i hi => List.getElem?_modify_ne _ _ hi
  refine ⟨by show d.waits ++ [x] = _; rw [h.waits], by show (List.modify _ _ _).length = _; rw [List.length_modify]; exact h.len, fun y hy => ?_, ?_, fun i hi => ?_, fun y hy => ?_, h.cuts, h.up, h.fails, by show d.since + 1 = _; rw [h.since, List.length_append]; rfl⟩
  · rcases List.mem_append.1 hy with hy | hy
    · exact h.inn y hy
    · rw [List.mem_singleton.1 hy]; exact hx
  · refine List.pairwise_append.2 ⟨h.nd, List.pairwise_singleton _ _, fun y hy z hz => ?_⟩
    rw [List.mem_singleton.1 hz]; exact hne y hy
  · show (List.modify _ _ _)[i]? = _
    rw [other i (hi x (by simp))]
    exact h.oth i (fun y hy => hi y (by simp [hy]))
  · rcases List.mem_append.1 hy with hy | hy
    · obtain ⟨s1, q, h1, h2⟩ := h.own y hy
      refine ⟨s1, q, h1, ?_⟩
      show (List.modify _ _ _)[y.sec]? = _
      rw [other _ (hne y hy).symm]; exact h2
    · obtain rfl := List.mem_singleton.1 hy
      refine ⟨s0, d.waits.length + 1, hs0, ?_⟩
      show (List.modify _ _ _)[y.sec]? = _
      rw [List.getElem?_modify_eq, hs]; rfl

theorem settled_hit (l : List Wr) (f : Nat → Nat) (s : List Sec) (nd : l.Pairwise (fun x y => x.sec ≠ y.sec)) (j : Nat) (hj : j < l.length) : ∀ k, (settled l f s k)[l[j].sec]? = if j < k then (s[l[j].sec]?).map (settle1 l[j] (f j)) else s[l[j].sec]?
  | 0 => by rw [if_neg (by omega)]; rfl
  | k + 1 => by
    have ih := settled_hit l f s nd j hj k
    by_cases hk : k < l.length
    · rw [D.settled_succ _ _ _ _ hk]
      by_cases e : k = j
      · subst e
        rw [List.getElem?_modify_eq, ih, if_neg (by omega), if_pos (by omega)]
        rfl
      · have hne : l[k].sec ≠ l[j].sec := by
          rcases Nat.lt_or_gt_of_ne e with h | h
          · exact List.pairwise_iff_getElem.1 nd k j hk hj h
          · exact (List.pairwise_iff_getElem.1 nd j k hj hk h).symm
        rw [List.getElem?_modify_ne _ _ hne, ih]
        by_cases h1 : j < k
        · rw [if_pos h1, if_pos (by omega)]
        · rw [if_neg h1, if_neg (by omega)]
    · have e : settled l f s (k + 1) = settled l f s k := by rw [settled, List.getElem?_eq_none (by omega)]
      rw [e, ih, if_pos (by omega), if_pos (by omega)]

/-- A disk on which those sectors are written for good. -/
structure Wrt (d0 : Dk) (ws : List Wr) (d : Dk) : Prop where
  flu : Flu d
  len : d.secs.length = d0.secs.length
  oth : ∀ i, (∀ x ∈ ws, x.sec ≠ i) → d.secs[i]? = d0.secs[i]?
  own : ∀ x ∈ ws, d.secs[x.sec]? = some ⟨x.bytes, false, 0⟩
  cuts : d.cuts = d0.cuts
  fails : d.fails = d0.fails
  since : d.since = d0.since + ws.length + 1

theorem Pend.flush {d0 d : Dk} {ws : List Wr} (h : Pend d0 ws d) (h0 : Flu d0) : Wrt d0 ws d.begin.good := by
  have oth : ∀ i, (∀ x ∈ ws, x.sec ≠ i) → d.begin.good.secs[i]? = d0.secs[i]? := by
    intro i hi
    show (settled d.waits _ d.secs _)[i]? = _
    rw [D.settled_other _ _ _ i (by rw [h.waits]; exact hi)]
    exact h.oth i hi
  have own : ∀ x ∈ ws, d.begin.good.secs[x.sec]? = some ⟨x.bytes, false, 0⟩ := by
    intro x hx
    obtain ⟨j, hj, rfl⟩ := List.getElem_of_mem hx
    obtain ⟨s0, q, _, h2⟩ := h.own _ hx
    show (settled d.waits _ d.secs d.waits.length)[_]? = _
    rw [h.waits, settled_hit ws (fun _ => 1) d.secs h.nd j hj, if_pos hj, h2]
    rfl
  have len : d.begin.good.secs.length = d0.secs.length := by
    show (settled _ _ _ _).length = _
    rw [D.settled_length]; exact h.len
  refine ⟨⟨rfl, fun i s hs => ?_, h.up⟩, len, oth, own, h.cuts, h.fails, by show d.since + 1 = _; rw [h.since]⟩
  by_cases hi : ∀ x ∈ ws, x.sec ≠ i
  · rw [oth i hi] at hs; exact h0.last i s hs
  · simp only [Classical.not_forall, Classical.not_not] at hi
    obtain ⟨x, hx, rfl⟩ := hi
    rw [own x hx] at hs
    injection hs with hs
    rw [← hs]

/-- What is left when the power fails. -/
structure Lft (d0 : Dk) (ws : List Wr) (d : Dk) : Prop where
  waits : d.waits = []
  last : ∀ (i : Nat) (s : Sec), d.secs[i]? = some s → s.last = 0
  len : d.secs.length = d0.secs.length
  oth : ∀ i, (∀ x ∈ ws, x.sec ≠ i) → d.secs[i]? = d0.secs[i]?
  own : ∀ x ∈ ws, d.secs[x.sec]? = d0.secs[x.sec]? ∨ d.secs[x.sec]? = some ⟨x.bytes, false, 0⟩ ∨ d.secs[x.sec]? = some ⟨x.bytes, true, 0⟩
  cuts : d0.cuts = [] ∨ ∃ c, d0.cuts = c :: d.cuts
  fails : d.fails = d0.fails + 1
  dead : d.dead = true

theorem Pend.fail {d0 d : Dk} {ws : List Wr} (h : Pend d0 ws d) (h0 : Flu d0) (c : Ct) (r : List Ct) (hc : d0.cuts = c :: r) : Lft d0 ws (d.begin.fail c r) := by
  have oth : ∀ i, (∀ x ∈ ws, x.sec ≠ i) → (d.begin.fail c r).secs[i]? = d0.secs[i]? := by
    intro i hi
    show (settled d.waits _ d.secs _)[i]? = _
    rw [D.settled_other _ _ _ i (by rw [h.waits]; exact hi)]
    exact h.oth i hi
  have own : ∀ x ∈ ws, (d.begin.fail c r).secs[x.sec]? = d0.secs[x.sec]? ∨ (d.begin.fail c r).secs[x.sec]? = some ⟨x.bytes, false, 0⟩ ∨ (d.begin.fail c r).secs[x.sec]? = some ⟨x.bytes, true, 0⟩ := by
    intro x hx
    obtain ⟨j, hj, rfl⟩ := List.getElem_of_mem hx
    obtain ⟨s0, q, h1, h2⟩ := h.own _ hx
    have e : (d.begin.fail c r).secs[ws[j].sec]? = some (settle1 ws[j] (D.fateOf c j) { s0 with last := q }) := by
      show (settled d.waits _ d.secs d.waits.length)[_]? = _
      rw [h.waits, settled_hit ws _ d.secs h.nd j hj, if_pos hj, h2]
      rfl
    rw [e, h1]
    have hz := h0.last _ _ h1
    unfold settle1
    split
    · exact .inl (by cases s0; simp only at hz; subst hz; rfl)
    · right
      cases (D.fateOf c j == 2)
      · exact .inl rfl
      · exact .inr rfl
  have len : (d.begin.fail c r).secs.length = d0.secs.length := by
    show (settled _ _ _ _).length = _
    rw [D.settled_length]; exact h.len
  refine ⟨rfl, fun i s hs => ?_, len, oth, own, .inr ⟨c, hc⟩, by show d.fails + 1 = _; rw [h.fails], rfl⟩
  by_cases hi : ∀ x ∈ ws, x.sec ≠ i
  · rw [oth i hi] at hs; exact h0.last i s hs
  · simp only [Classical.not_forall, Classical.not_not] at hi
    obtain ⟨x, hx, rfl⟩ := hi
    rcases own x hx with e | e | e
    · rw [e] at hs; exact h0.last _ s hs
    · rw [e] at hs; injection hs with hs; rw [← hs]
    · rw [e] at hs; injection hs with hs; rw [← hs]
end Go.Proofs.YthlhnjjofefgcaaGreatDoor.G
