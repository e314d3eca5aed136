/- Joined: GPlayB GPlayC. What is proved of the functions beneath PagerNone,PagerBlank,PagerCuts,PagerPlays. Conditions: those that each row names. -/
import Derived.Test.YthlhnjjofefgcaaGreatDoorZat
import Derived.Deep.RegionWith
import Derived.Deep.CutRange
import Derived.BigQuiet
namespace Go.Proofs.YthlhnjjofefgcaaGreatDoor.G
open Go.ChangeShapes Go.WideShapes Go.ChangeAt Go.RowKit
open D (Dk Ok DiskAt Sec Wr Ct whole)
open P (bs supL Sup supP Small)

structure St (d : Dk) (g : Nat) : Prop where
  own : d.secs[g % 2]? = some ⟨bs (supP g (-1)), false, 0⟩
  oth : ∃ s o, d.secs[(g + 1) % 2]? = some s ∧ Sd (sayS s).1 ((g + 1) % 2) o ∧ (o.getD (0, 0)).1 < g

def Fit (m : Nat) (x : Pge) : Prop := 2 ≤ x.n ∧ x.n < m ∧ 1 ≤ x.kind ∧ x.kind ≤ 4 ∧ x.s.size ≤ 40

structure Iv (m i : Nat) (q : Pq) (M : Nat → Option Pag) (now kept : List Pge) : Prop where
  m2 : 2 ≤ m
  m17 : m ≤ 17
  qm : q.m = m
  len : q.disk.secs.length = m
  flu : Flu q.disk
  cuts : q.disk.cuts = []
  fails : q.disk.fails = 0
  qfails : q.fails = 0
  doubt : q.doubt = false
  ok : Ok i q.disk
  gen1 : 1 ≤ q.gen
  genb : q.gen ≤ i
  st : St q.disk q.gen
  nowF : ∀ x ∈ now, Fit m x
  keptF : ∀ x ∈ kept, Fit m x
  nowD : now.Pairwise (fun x y => x.n ≠ y.n)
  keptD : kept.Pairwise (fun x y => x.n ≠ y.n)
  un : ∀ k, k < m → q.un k = (decide (k < 2) || hasN now k)
  uk : ∀ k, k < m → q.uk k = (decide (k < 2) || hasN kept k)
  ut : ∀ k, k < m → q.ut k = (decide (k < 2) || hasN now k || hasN kept k)
  old : ∀ x ∈ now, hasN kept x.n = true → q.fresh x.n = none ∧ x ∈ kept
  new : ∀ x ∈ now, hasN kept x.n = false → q.fresh x.n = some ⟨x.kind, (x.n : Nat), q.gen + 1, x.s⟩
  frs : ∀ k, (q.fresh k).isSome = true → hasN now k = true ∧ hasN kept k = false
  con : ∀ k p, M k = some p → q.disk.secs[k]? = some ⟨whole (secOf M k), false, 0⟩ ∧ p.num = (k : Nat) ∧ 1 ≤ p.kind ∧ p.kind ≤ 4 ∧ p.data.size ≤ 237 ∧ p.gen < 18446744073709551616 ∧ 2 ≤ k
  says : ∀ x ∈ kept, ∃ g, M x.n = some ⟨x.kind, (x.n : Nat), g, x.s⟩
  held : ∀ k p, q.held k = some p → M k = some p

theorem Iv.mono {m i j : Nat} {q : Pq} {M : Nat → Option Pag} {now kept : List Pge} (h : Iv m i q M now kept) (hj : i ≤ j) : Iv m j q M now kept := { h with ok := Ok.mono h.ok hj, genb := Nat.le_trans h.genb hj }
theorem Iv.liv {m i : Nat} {q : Pq} {M : Nat → Option Pag} {now kept : List Pge} (h : Iv m i q M now kept) (k : Nat) : Liv q.disk k := ⟨h.flu.up, by intro c r e; rw [h.cuts] at e; cases e⟩

theorem has_iff {l : List Pge} {n : Nat} : hasN l n = true ↔ ∃ x ∈ l, x.n = n := by simp [hasN]
theorem has_of {l : List Pge} {x : Pge} (h : x ∈ l) : hasN l x.n = true := has_iff.2 ⟨x, h, rfl⟩
theorem has_snoc (l : List Pge) (x : Pge) (k : Nat) : hasN (l ++ [x]) k = (hasN l k || decide (x.n = k)) := by simp [hasN]
theorem has_without (l : List Pge) (n k : Nat) : hasN (without l n) k = (hasN l k && !decide (k = n)) := by
  rw [Bool.eq_iff_iff]
  simp only [has_iff, without, List.mem_filter, Bool.and_eq_true, Bool.not_eq_true', decide_eq_false_iff_not]
  constructor
  · rintro ⟨x, ⟨h1, h2⟩, h3⟩; exact ⟨⟨x, h1, h3⟩, by rw [← h3]; exact h2⟩
  · rintro ⟨⟨x, h1, h2⟩, h3⟩; exact ⟨x, ⟨h1, by rw [h2]; exact h3⟩, h2⟩
theorem has_small {m : Nat} {l : List Pge} (h : ∀ x ∈ l, Fit m x) {k : Nat} (hk : hasN l k = true) : 2 ≤ k ∧ k < m := by
  obtain ⟨x, hx, rfl⟩ := has_iff.1 hk
  exact ⟨(h x hx).1, (h x hx).2.1⟩

theorem st_open {d : Dk} {g : Nat} (h : St d g) (hs : Sup g (-1)) : ∃ s0 s1 o0 o1, d.secs[0]? = some s0 ∧ d.secs[1]? = some s1 ∧ Sd (sayS s0).1 0 o0 ∧ Sd (sayS s1).1 1 o1 ∧ pick o0 o1 = some (g, -1) := by
  obtain ⟨s, o, e, k, hlt⟩ := h.oth
  have e1 := h.own
  rcases Nat.mod_two_eq_zero_or_one g with hm | hm
  · have hm' : (g + 1) % 2 = 1 := by omega
    rw [hm] at e1
    rw [hm'] at e k
    refine ⟨_, _, some (g, -1), o, e1, e, ⟨hs, rfl, hm⟩, k, ?_⟩
    unfold pick
    cases o with
    | none => rfl
    | some z => obtain ⟨z1, z2⟩ := z; have : z1 < g := hlt; show (if g < z1 then _ else _) = _; rw [if_neg (by omega)]
  · have hm' : (g + 1) % 2 = 0 := by omega
    rw [hm] at e1
    rw [hm'] at e k
    refine ⟨_, _, o, some (g, -1), e, e1, k, ⟨hs, rfl, hm⟩, ?_⟩
    unfold pick
    show (if (o.getD (0, 0)).1 < g then _ else _) = _
    rw [if_pos hlt]

theorem sup_of {g : Nat} (h1 : 1 ≤ g) (h2 : g < 1000000) : Sup g (-1) := by unfold Sup; omega

theorem look_iv {B : Nat} {w : World} {p m i : Nat} {a : Ad} {q : Pq} {M : Nat → Option Pag} {now kept : List Pge} (h : GA B w p a q) (hB : B ≤ w.heap.size) (v : Iv m i q M now kept) (hi : i < 48000) {x : Pge} (hx : x ∈ now) :
    ∃ (q' : Pq) (pg : Pag), (∀ W, D.Kept w W → Calls Tryz.prog 36 #[.pointer (some ⟨p, 0, none⟩), .int .i64 (x.n : Nat)] W fun e w' => e = .returned (.tuple #[pg.val, .int .i64 0]) ∧ GA B w' p a q' ∧ On B W w') ∧ Iv m (i + 1) q' M now kept ∧ pg.kind = x.kind ∧ pg.num = (x.n : Nat) ∧ pg.data = x.s := by
  obtain ⟨f1, f2, f3, f4, f5⟩ := v.nowF x hx
  have := v.m17
  cases hh : hasN kept x.n with
  | false => exact ⟨q, _, fun W hW => look_fresh (h.kept hW) (Nat.le_trans hB hW.size) x.n (by omega) _ (v.new x hx hh), v.mono (by omega), rfl, rfl, rfl⟩
  | true =>
    obtain ⟨hn, hk⟩ := v.old x hx hh
    obtain ⟨g, hM⟩ := v.says x hk
    obtain ⟨c1, c2, c3, c4, c5, c6, _⟩ := v.con _ _ hM
    have hfe : q.fails = q.disk.fails := by rw [v.fails, v.qfails]
    cases hq : q.held x.n with
    | some y =>
      have := v.held _ _ hq
      rw [hM] at this
      injection this with this
      exact ⟨q, y, fun W hW => look_held (h.kept hW) (Nat.le_trans hB hW.size) hfe x.n (by omega) hn y hq, v.mono (by omega), by rw [← this], by rw [← this], by rw [← this]⟩
    | none =>
      refine ⟨{ q with disk := q.disk.begin, held := putM q.held x.n ⟨x.kind, (x.n : Nat), g, x.s⟩ }, _, look_kept h hB v.ok (by omega) x.n f1 (by omega) hn hfe hq v.flu (v.liv 1) hM c3 c4 c5 c6 c1, ?_, rfl, rfl, rfl⟩
      refine { v with flu := begin_flu v.flu, ok := D.begin_ok v.ok, genb := Nat.le_succ_of_le v.genb, held := ?_, st := ⟨v.st.own, v.st.oth⟩ }
      intro k p hp
      have hp' : putM q.held x.n ⟨x.kind, (x.n : Nat), g, x.s⟩ k = some p := hp
      unfold putM at hp'
      split at hp'
      · rename_i e; subst e; rw [← hp']; exact hM
      · exact v.held k p hp'

theorem add_iv {m i : Nat} {q : Pq} {M : Nat → Option Pag} {now kept : List Pge} (v : Iv m i q M now kept) (n : Nat) (hr : S.IsFirst q.ut q.m 2 (n : Nat)) (kd : Int) (s : ByteArray) (h1 : 1 ≤ kd) (h4 : kd ≤ 4) (hs : s.size ≤ 40) :
    n < m ∧ Iv m i (q.add n kd s) M (now ++ [⟨n, kd, s⟩]) kept := by
  obtain ⟨hn2, hnm, hu⟩ : 2 ≤ n ∧ n < m ∧ q.ut n = false := by
    rcases hr with ⟨j, e, a1, a2, a3, _⟩ | ⟨e, _⟩
    · have : n = j := by omega
      subst this
      exact ⟨a1, by rw [← v.qm]; exact a2, a3⟩
    · omega
  have hu' := v.ut n hnm
  rw [hu] at hu'
  have hnn : hasN now n = false ∧ hasN kept n = false := by
    cases a : hasN now n <;> cases b : hasN kept n <;> simp [a, b] at hu' ⊢
  have ne : ∀ x ∈ now, x.n ≠ n := fun x hx e => by have := has_of hx; rw [e, hnn.1] at this; cases this
  refine ⟨hnm, { v with nowF := ?_, nowD := ?_, un := ?_, ut := ?_, old := ?_, new := ?_, frs := ?_, st := ⟨v.st.own, v.st.oth⟩ }⟩
  · intro x hx; rcases List.mem_append.1 hx with hx | hx
    · exact v.nowF x hx
    · simp at hx; subst hx; exact ⟨hn2, hnm, h1, h4, hs⟩
  · rw [List.pairwise_append]; exact ⟨v.nowD, by simp, by intro x hx y hy; simp at hy; subst hy; exact ne x hx⟩
  · intro k hk
    show S.useAt q.un n k = _
    rw [has_snoc]; unfold S.useAt
    by_cases e : k = n
    · subst e; simp
    · rw [if_neg e, v.un k hk]; simp [Ne.symm e]
  · intro k hk
    show S.useAt q.ut n k = _
    rw [has_snoc]; unfold S.useAt
    by_cases e : k = n
    · subst e; simp
    · rw [if_neg e, v.ut k hk]; simp [Ne.symm e]
  · intro x hx hh
    rcases List.mem_append.1 hx with hx | hx
    · refine ⟨?_, (v.old x hx hh).2⟩
      show putM q.fresh n _ x.n = none
      unfold putM; rw [if_neg (ne x hx)]; exact (v.old x hx hh).1
    · simp at hx; subst hx; dsimp only at hh; rw [hnn.2] at hh; cases hh
  · intro x hx hh
    show putM q.fresh n _ x.n = _
    unfold putM
    rcases List.mem_append.1 hx with hx | hx
    · rw [if_neg (ne x hx)]; exact v.new x hx hh
    · simp at hx; subst hx; rw [if_pos rfl]; rfl
  · intro k hk
    have hk' : (putM q.fresh n ⟨kd, (n : Nat), q.gen + 1, s⟩ k).isSome = true := hk
    rw [has_snoc]
    unfold putM at hk'
    by_cases e : k = n
    · subst e; simp [hnn.2]
    · rw [if_neg e] at hk'; have := v.frs k hk'; simp [this]

theorem drop_iv {m i : Nat} {q : Pq} {M : Nat → Option Pag} {now kept : List Pge} (v : Iv m i q M now kept) {x : Pge} (hx : x ∈ now) : Iv m i (q.drop x.n) M (without now x.n) kept := by
  have sub : ∀ y ∈ without now x.n, y ∈ now ∧ y.n ≠ x.n := fun y hy => by simp [without] at hy; exact hy
  cases hh : hasN kept x.n with
  | false =>
    have hf := v.new x hx hh
    have e : q.drop x.n = { q with un := S.freeAt q.un x.n, ut := S.freeAt q.ut x.n, fresh := delM q.fresh x.n } := by unfold Pq.drop; rw [hf]; rfl
    rw [e]
    refine { v with nowF := fun y hy => v.nowF y (sub y hy).1, nowD := v.nowD.filter _, un := ?_, ut := ?_, old := ?_, new := ?_, frs := ?_, st := ⟨v.st.own, v.st.oth⟩ }
    · intro k hk
      show S.freeAt q.un x.n k = _
      rw [has_without]; unfold S.freeAt
      by_cases e : k = x.n
      · have := (v.nowF x hx).1; subst e; simp; omega
      · rw [if_neg e, v.un k hk]; simp [e]
    · intro k hk
      show S.freeAt q.ut x.n k = _
      rw [has_without]; unfold S.freeAt
      by_cases e : k = x.n
      · have := (v.nowF x hx).1; subst e; simp [hh]; omega
      · rw [if_neg e, v.ut k hk]; simp [e]
    · intro y hy h2
      refine ⟨?_, (v.old y (sub y hy).1 h2).2⟩
      show delM q.fresh x.n y.n = none
      unfold delM; rw [if_neg (sub y hy).2]; exact (v.old y (sub y hy).1 h2).1
    · intro y hy h2
      show delM q.fresh x.n y.n = _
      unfold delM; rw [if_neg (sub y hy).2]; exact v.new y (sub y hy).1 h2
    · intro k hk
      have hk' : (delM q.fresh x.n k).isSome = true := hk
      unfold delM at hk'
      split at hk'
      · cases hk'
      · rename_i e; have := v.frs k hk'; rw [has_without]; simp [this, e]
  | true =>
    have hf := (v.old x hx hh).1
    have e : q.drop x.n = { q with un := S.freeAt q.un x.n } := by unfold Pq.drop; rw [hf]; rfl
    rw [e]
    refine { v with nowF := fun y hy => v.nowF y (sub y hy).1, nowD := v.nowD.filter _, un := ?_, ut := ?_, old := fun y hy => v.old y (sub y hy).1, new := fun y hy => v.new y (sub y hy).1, frs := ?_, st := ⟨v.st.own, v.st.oth⟩ }
    · intro k hk
      show S.freeAt q.un x.n k = _
      rw [has_without]; unfold S.freeAt
      by_cases e : k = x.n
      · have := (v.nowF x hx).1; subst e; simp; omega
      · rw [if_neg e, v.un k hk]; simp [e]
    · intro k hk
      show q.ut k = _
      rw [has_without, v.ut k hk]
      by_cases e : k = x.n
      · subst e; simp [hh]
      · simp [e]
    · intro k hk
      have h2 := v.frs k hk
      rw [has_without]
      have : k ≠ x.n := fun e => by rw [e, hh] at h2; cases h2.2
      simp [h2, this]

theorem undo_iv {m i : Nat} {q : Pq} {M : Nat → Option Pag} {now kept : List Pge} (v : Iv m i q M now kept) : Iv m i q.undo M kept kept :=
  { v with nowF := v.keptF, nowD := v.keptD, un := v.uk, ut := (fun k hk => by rw [Bool.or_assoc, Bool.or_self]; exact v.uk k hk), old := (fun x hx _ => ⟨rfl, hx⟩), new := (fun x hx h => by rw [has_of hx] at h; cases h), frs := (by intro k hk; cases hk), st := ⟨v.st.own, v.st.oth⟩ }

theorem sec_eq {M M' : Nat → Option Pag} {k : Nat} (h : M k = M' k) : secOf M k = secOf M' k := by unfold secOf atK; rw [h]

theorem commit_iv {m i : Nat} {q : Pq} {M : Nat → Option Pag} {now kept : List Pge} (v : Iv m i q M now kept) (hi : i < 48000) :
    (∀ n, (atK q.fresh n).gen < 18446744073709551616) ∧ Sup (q.gen + 1) (-1) ∧ ∃ d', wrt q.fresh q.disk (keysOf q.fresh) (q.gen + 1) (-1) = (d', 0, false) ∧ ∃ M', Iv m (i + 70) (q.comd d' (-1)) M' now now := by
  have hg := v.genb
  have m17 := v.m17
  have hs := sup_of (g := q.gen) v.gen1 (by omega)
  have hs1 := sup_of (g := q.gen + 1) (by omega) (by omega)
  have nw : ∀ k p, q.fresh k = some p → 2 ≤ k ∧ k < m ∧ ∃ x ∈ now, x.n = k ∧ p = ⟨x.kind, (k : Nat), q.gen + 1, x.s⟩ := by
    intro k p hp
    obtain ⟨h1, h2⟩ := v.frs k (by rw [hp]; rfl)
    obtain ⟨a, b⟩ := has_small v.nowF h1
    obtain ⟨x, hx, rfl⟩ := has_iff.1 h1
    have := v.new x hx h2
    rw [hp] at this
    injection this with this
    exact ⟨a, b, x, hx, rfl, this⟩
  have kr : ∀ n ∈ keysOf q.fresh, 2 ≤ n ∧ n < m := by
    intro n hn
    obtain ⟨p, hp⟩ := Option.isSome_iff_exists.1 (mem_keys.1 hn).2
    exact ⟨(nw n p hp).1, (nw n p hp).2.1⟩
  obtain ⟨d1, d2, e, w1, w2⟩ := wrt_live q.fresh v.flu (l := keysOf q.fresh) (v.liv _) (keys_ne _) (fun n hn => by rw [v.len]; exact (kr n hn).2) (by rw [v.len]; exact v.m2) (q.gen + 1) (-1) hs1
  have ok2 := wrt_ok (M := q.fresh) v.ok (keysOf q.fresh) (q.gen + 1) (-1)
  rw [e] at ok2
  have hl64 : (keysOf q.fresh).length ≤ 64 := by unfold keysOf; exact Nat.le_trans (List.length_filter_le _ _) (by simp)
  have oth : ∀ k, (∀ n ∈ keysOf q.fresh, n ≠ k) → k ≠ (q.gen + 1) % 2 → d2.secs[k]? = q.disk.secs[k]? := by
    intro k h1 h2
    rw [w2.oth k (by intro x hx; simp at hx; subst hx; exact Ne.symm h2), w1.oth k (by intro x hx; simp only [wrl, List.mem_map] at hx; obtain ⟨n, hn, rfl⟩ := hx; exact h1 n hn)]
  refine ⟨?_, hs1, d2, e, fun k => if (q.fresh k).isSome then q.fresh k else M k, ?_⟩
  · intro n
    unfold atK
    cases hp : q.fresh n with
    | none => show 0 < _; omega
    | some p => obtain ⟨_, _, x, _, _, rfl⟩ := nw n p hp; show q.gen + 1 < _; omega
  · refine ⟨v.m2, v.m17, v.qm, ?_, w2.flu, ?_, ?_, v.qfails, rfl, Ok.mono ok2 (by omega), ?_, ?_, ⟨?_, ?_⟩, v.nowF, v.nowF, v.nowD, v.nowD, v.un, v.un, ?_, ?_, ?_, ?_, ?_, ?_, ?_⟩
    · show d2.secs.length = m; rw [w2.len, w1.len, v.len]
    · show d2.cuts = []; rw [w2.cuts, w1.cuts, v.cuts]
    · show d2.fails = 0; rw [w2.fails, w1.fails, v.fails]
    · show 1 ≤ q.gen + 1; omega
    · show q.gen + 1 ≤ i + 70; omega
    · exact w2.own ⟨(q.gen + 1) % 2, bs (supP (q.gen + 1) (-1))⟩ (by simp)
    · refine ⟨⟨bs (supP q.gen (-1)), false, 0⟩, some (q.gen, -1), ?_, sd_state hs (by show q.gen % 2 = (q.gen + 1 + 1) % 2; omega), Nat.lt_succ_self _⟩
      show d2.secs[(q.gen + 1 + 1) % 2]? = _
      rw [oth _ (fun n hn => by have := (kr n hn).1; omega) (by omega), show (q.gen + 1 + 1) % 2 = q.gen % 2 by omega]
      exact v.st.own
    · intro k hk; rw [Bool.or_assoc, Bool.or_self]; exact v.un k hk
    · intro x hx _; exact ⟨rfl, hx⟩
    · intro x hx h; rw [has_of hx] at h; cases h
    · intro k hk; cases hk
    · intro k p hp
      cases hf : q.fresh k with
      | some y =>
        have e1 : (if (q.fresh k).isSome then q.fresh k else M k) = some y := by rw [hf]; rfl
        obtain ⟨a, b, x, hx, rfl, rfl⟩ := nw k y hf
        obtain ⟨f1, f2, f3, f4, f5⟩ := v.nowF x hx
        rw [e1] at hp
        injection hp with hp
        subst hp
        refine ⟨?_, rfl, f3, f4, by show x.s.size ≤ 237; omega, by show q.gen + 1 < _; omega, f1⟩
        rw [sec_eq (M' := q.fresh) (e1.trans hf.symm)]
        show d2.secs[x.n]? = _
        rw [w2.oth x.n (by intro z hz; simp at hz; subst hz; show (q.gen + 1) % 2 ≠ x.n; omega)]
        exact w1.own ⟨x.n, whole (secOf q.fresh x.n)⟩ (by simp only [wrl, List.mem_map]; exact ⟨x.n, mem_keys.2 ⟨by omega, by rw [hf]; rfl⟩, rfl⟩)
      | none =>
        have e1 : (if (q.fresh k).isSome then q.fresh k else M k) = M k := by rw [hf]; rfl
        rw [e1] at hp
        obtain ⟨c1, c2, c3, c4, c5, c6, c7⟩ := v.con k p hp
        refine ⟨?_, c2, c3, c4, c5, c6, c7⟩
        rw [sec_eq (M' := M) e1]
        show d2.secs[k]? = _
        rw [oth k (fun n hn e => by subst e; have := (mem_keys.1 hn).2; rw [hf] at this; cases this) (by omega)]
        exact c1
    · intro x hx
      cases hh : hasN kept x.n with
      | false => exact ⟨q.gen + 1, by rw [v.new x hx hh]; rfl⟩
      | true =>
        obtain ⟨a, b⟩ := v.old x hx hh
        obtain ⟨g, hM⟩ := v.says x b
        exact ⟨g, by rw [a]; exact hM⟩
    · intro k p hp
      have hp' : (if (q.fresh k).isSome then none else q.held k) = some p := hp
      cases hf : q.fresh k with
      | some y => rw [hf] at hp'; cases hp'
      | none => rw [hf] at hp'; exact v.held k p hp'

theorem ahead_is (k : Nat) : ahead k = decide (k < 2) := by
  unfold ahead S.useAt
  rcases k with _ | _ | k
  · rfl
  · rfl
  · simp
theorem open_iv {m i : Nat} {q : Pq} {M : Nat → Option Pag} {now kept : List Pge} (v : Iv m i q M now kept) : Iv m (i + 2) (opened q.disk.begin.begin (q.gen, -1)) M [] [] := by
  refine ⟨v.m2, v.m17, v.len, v.len, begin_flu (begin_flu v.flu), v.cuts, v.fails, rfl, rfl, D.begin_ok (D.begin_ok v.ok), v.gen1, Nat.le_trans v.genb (by omega), ⟨v.st.own, v.st.oth⟩, (by intro _ h; cases h), (by intro _ h; cases h), List.Pairwise.nil, List.Pairwise.nil, ?_, ?_, ?_, (by intro _ h; cases h), (by intro _ h; cases h), (by intro k hk; cases hk), v.con, (by intro _ h; cases h), (by intro k p hp; cases hp)⟩
  all_goals (intro k _; show ahead k = _; rw [ahead_is]; simp [hasN])

theorem mark_iv {m i : Nat} {q : Pq} {M : Nat → Option Pag} {l : List Pge} (v : Iv m i q M l l) (x : Pge) (hx : Fit m x) (hn : hasN l x.n = false) (hs : ∃ g, M x.n = some ⟨x.kind, (x.n : Nat), g, x.s⟩) : q.ut x.n = false ∧ q.uk x.n = false ∧ Iv m i (q.mark x.n) M (l ++ [x]) (l ++ [x]) ∧ (q.mark x.n).ut x.n = true := by
  have h2 := hx.1
  have ut0 : q.ut x.n = false := by rw [v.ut _ hx.2.1, hn]; simp; omega
  have uk0 : q.uk x.n = false := by rw [v.uk _ hx.2.1, hn]; simp; omega
  have fr : ∀ k, q.fresh k = none := fun k => by
    cases hf : q.fresh k with
    | none => rfl
    | some p => have := v.frs k (by rw [hf]; rfl); rw [this.1] at this; cases this.2
  have ft : ∀ y ∈ l ++ [x], Fit m y := fun y hy => by
    rcases List.mem_append.1 hy with hy | hy
    · exact v.nowF y hy
    · simp at hy; subst hy; exact hx
  have pd : (l ++ [x]).Pairwise (fun x y => x.n ≠ y.n) := by
    rw [List.pairwise_append]; exact ⟨v.nowD, by simp, by intro y hy z hz; simp at hz; subst hz; intro e; have := has_of hy; rw [e, hn] at this; cases this⟩
  have us : ∀ (u : Nat → Bool), (∀ k, k < m → u k = (decide (k < 2) || hasN l k)) → ∀ k, k < m → S.useAt u x.n k = (decide (k < 2) || hasN (l ++ [x]) k) := fun u hu k hk => by
    rw [has_snoc]; unfold S.useAt
    by_cases e : k = x.n
    · subst e; simp
    · rw [if_neg e, hu k hk]; simp [Ne.symm e]
  refine ⟨ut0, uk0, { v with nowF := ft, keptF := ft, nowD := pd, keptD := pd, un := us _ v.un, uk := us _ v.uk, ut := ?_, old := ?_, new := ?_, frs := ?_, says := ?_, st := ⟨v.st.own, v.st.oth⟩ }, ?_⟩
  · intro k hk; rw [Bool.or_assoc, Bool.or_self]; exact us _ (fun k hk => by rw [v.ut k hk, Bool.or_assoc, Bool.or_self]) k hk
  · intro y hy _; exact ⟨fr _, hy⟩
  · intro y hy h; rw [has_of hy] at h; cases h
  · intro k hk; have hk' : (q.fresh k).isSome = true := hk; rw [fr k] at hk'; cases hk'
  · intro y hy
    rcases List.mem_append.1 hy with hy | hy
    · exact v.says y hy
    · simp at hy; subst hy; exact hs
  · show S.useAt q.ut x.n x.n = true
    unfold S.useAt; rw [if_pos rfl]

theorem cnt_list (m : Nat) (hm : 2 ≤ m) : ∀ (l : List Pge), (∀ x ∈ l, Fit m x) → l.Pairwise (fun x y => x.n ≠ y.n) → S.cnt m (fun k => decide (k < 2) || hasN l k) + 2 + l.length = m
  | [], _, _ => by
    have e : S.cnt m (fun k => decide (k < 2) || hasN [] k) = S.cnt m ahead := S.cnt_congr (fun k _ => by rw [ahead_is]; simp [hasN])
    have h0 := S.cnt_use (m := m) (n := 0) (u := fun _ => false) (by omega) rfl
    have h1 := S.cnt_use (m := m) (n := 1) (u := S.useAt (fun _ => false) 0) (by omega) rfl
    have hz := cnt_none m
    rw [e]
    show S.cnt m (S.useAt (S.useAt (fun _ => false) 0) 1) + 2 + 0 = m
    omega
  | x :: r, hf, hp => by
    have ih := cnt_list m hm r (fun y hy => hf y (List.mem_cons_of_mem _ hy)) (List.pairwise_cons.1 hp).2
    have hx := hf x (List.mem_cons_self ..)
    have hn : hasN r x.n = false := by
      cases h : hasN r x.n with
      | false => rfl
      | true => obtain ⟨y, hy, e⟩ := has_iff.1 h; exact absurd e.symm ((List.pairwise_cons.1 hp).1 y hy)
    have h1 := S.cnt_use (m := m) (n := x.n) (u := fun k => decide (k < 2) || hasN r k) hx.2.1 (by have := hx.1; simp [hn]; omega)
    have e : S.cnt m (fun k => decide (k < 2) || hasN (x :: r) k) = S.cnt m (S.useAt (fun k => decide (k < 2) || hasN r k) x.n) := S.cnt_congr (fun k _ => by
      unfold S.useAt
      by_cases e : k = x.n
      · subst e; simp [hasN]
      · rw [if_neg e]; simp [hasN, Ne.symm e])
    rw [e, List.length_cons]
    omega

def gone (now kept : List Pge) : List Pge := kept.filter (fun x => !hasN now x.n)
theorem left_iv {m i : Nat} {q : Pq} {M : Nat → Option Pag} {now kept : List Pge} (v : Iv m i q M now kept) : S.cnt q.m q.ut + 2 + now.length + (gone now kept).length = m := by
  have e : S.cnt q.m q.ut = S.cnt m (fun k => decide (k < 2) || hasN (now ++ gone now kept) k) := by
    rw [v.qm]
    refine S.cnt_congr (fun k hk => ?_)
    rw [v.ut k hk, Bool.or_assoc]
    congr 1
    rw [Bool.eq_iff_iff]
    simp only [Bool.or_eq_true, has_iff, List.mem_append, gone, List.mem_filter]
    constructor
    · rintro (⟨x, h1, h2⟩ | ⟨x, h1, h2⟩)
      · exact ⟨x, .inl h1, h2⟩
      · cases h : hasN now x.n with
        | true => obtain ⟨y, hy, e⟩ := has_iff.1 h; exact ⟨y, .inl hy, e.trans h2⟩
        | false => exact ⟨x, .inr ⟨h1, by rw [h]; rfl⟩, h2⟩
    · rintro ⟨x, h1 | h1, h2⟩
      · exact .inl ⟨x, h1, h2⟩
      · exact .inr ⟨x, h1.1, h2⟩
  have := cnt_list m v.m2 (now ++ gone now kept) (by
    intro x hx
    rcases List.mem_append.1 hx with hx | hx
    · exact v.nowF x hx
    · exact v.keptF x (List.mem_filter.1 hx).1) (by
    rw [List.pairwise_append]
    refine ⟨v.nowD, v.keptD.filter _, fun x hx y hy e => ?_⟩
    have h := (List.mem_filter.1 hy).2
    rw [← e, has_of hx] at h
    cases h)
  rw [e]
  rw [List.length_append] at this
  omega

theorem first_iv {m i : Nat} {q : Pq} {M : Nat → Option Pag} {now kept : List Pge} (v : Iv m i q M now kept) (n : Nat) (h2 : 2 ≤ n) (hn : n < m) (hu : hasN now n = false ∧ hasN kept n = false) (hb : ∀ j, 2 ≤ j → j < n → (hasN now j || hasN kept j) = true) : S.IsFirst q.ut q.m 2 (n : Nat) :=
  .inl ⟨n, rfl, h2, by rw [v.qm]; exact hn, by rw [v.ut n hn, hu.1, hu.2]; simp; omega, fun j a b => by rw [v.ut j (by omega), Bool.or_assoc, hb j a b]; simp⟩
theorem full_iv {m i : Nat} {q : Pq} {M : Nat → Option Pag} {now kept : List Pge} (v : Iv m i q M now kept) (hb : ∀ j, 2 ≤ j → j < m → (hasN now j || hasN kept j) = true) : S.IsFirst q.ut q.m 2 (-1) :=
  .inr ⟨rfl, fun j a b => by rw [v.qm] at b; rw [v.ut j b, Bool.or_assoc, hb j a b]; simp⟩
end Go.Proofs.YthlhnjjofefgcaaGreatDoor.G

namespace Go.Proofs.YthlhnjjofefgcaaGreatDoor.G
open Go.ChangeShapes Go.WideShapes Go.ChangeAt Go.RowKit
open D (Dk Ok DiskAt Sec Wr Ct whole)
open P (bs supL Sup supP Small)

structure Rl (B : Nat) (w : World) (p : Nat) (a : Ad) (m i : Nat) (M : Nat → Option Pag) (now kept : List Pge) (W : World) : Prop where
  out : ∃ q, GA B W p a q ∧ Iv m i q M now kept ∧ On B w W

theorem read_iv {B : Nat} {w W : World} {p m i : Nat} {a : Ad} {M : Nat → Option Pag} {now kept : List Pge} (h : Rl B w p a m i M now kept W) (hB : B ≤ w.heap.size) (hi : i < 47000) {x : Pge} (hx : x ∈ now) : ∃ g : Nat,
    (∀ (V : World) (kb : Nat), D.Kept W V → V.heap[kb]? = some (.cells #[.int .i64 x.kind] 3) → Calls Tryz.prog 21 #[.pointer (some ⟨p, 0, none⟩), .int .i64 (x.n : Nat), .slice (some ⟨kb, 0, none⟩) 1 1] V fun e w' => e = .returned (.tuple #[.agg #[.int .i64 x.kind, .int .i64 (x.n : Nat), .int .u64 (g : Nat), .string x.s], .int .i64 0]) ∧ Rl B w p a m (i + 1) M now kept w' ∧ On B V w') ∧
    (∀ (V : World) (kb : Nat), D.Kept W V → V.heap[kb]? = some (.cells #[.int .i64 (x.kind % 4 + 1)] 3) → Calls Tryz.prog 21 #[.pointer (some ⟨p, 0, none⟩), .int .i64 (x.n : Nat), .slice (some ⟨kb, 0, none⟩) 1 1] V fun e w' => e = .returned (.tuple #[.agg #[.int .i64 0, .int .i64 0, .int .u64 0, .string ⟨#[]⟩], .int .i64 82]) ∧ Rl B w p a m (i + 1) M now kept w' ∧ On B V w') := by
  obtain ⟨q, hG, v, hO⟩ := h.out
  have hBW := Nat.le_trans hB hO.size
  obtain ⟨q', pg, F, v', e1, e2, e3⟩ := look_iv hG hBW v (by omega) hx
  obtain ⟨pk, pn, pgg, ps⟩ := pg
  dsimp only at e1 e2 e3
  subst e1 e2 e3
  obtain ⟨_, _, f3, f4, _⟩ := v.nowF x hx
  refine ⟨pgg, fun V kb hV hk => ?_, fun V kb hV hk => ?_⟩
  · refine (read_yes (n := x.n) (Nat.le_trans hBW hV.size) hk ⟨x.kind, (x.n : Nat), pgg, x.s⟩ (fun V' hV' => F V' (hV.trans hV')) rfl).mono ?_
    rintro e w' ⟨rfl, g', n⟩
    exact ⟨rfl, ⟨q', g', v', (hO.kept hV hB).trans n⟩, n⟩
  · refine (read_other (n := x.n) (Nat.le_trans hBW hV.size) hk ⟨x.kind, (x.n : Nat), pgg, x.s⟩ (fun V' hV' => F V' (hV.trans hV')) (by show ¬ x.kind = x.kind % 4 + 1; omega)).mono ?_
    rintro e w' ⟨rfl, g', n⟩
    exact ⟨rfl, ⟨q', g', v', (hO.kept hV hB).trans n⟩, n⟩

theorem Rl.kept {B : Nat} {w W W' : World} {p m i : Nat} {a : Ad} {M : Nat → Option Pag} {now kept : List Pge} (h : Rl B w p a m i M now kept W) (hB : B ≤ w.heap.size) (k : D.Kept W W') : Rl B w p a m i M now kept W' := by
  obtain ⟨q, hG, v, hO⟩ := h.out
  exact ⟨q, hG.kept k, v, hO.kept k hB⟩

theorem Rl.fill {B : Nat} {w W : World} {p m i : Nat} {a : Ad} {M : Nat → Option Pag} {now kept : List Pge} (h : Rl B w p a m i M now kept W) (hB : B ≤ w.heap.size) {r : Nat} {k n g : Int} {s : ByteArray} (Z : P.Pg W r k n g s 55) (hr : w.heap.size ≤ r) (x y z : Int) (d : ByteArray) :
    Rl B w p a m i M now kept ((((W.setCell ⟨r, 0, none⟩ (.int .i64 x)).setCell ⟨r, 1, none⟩ (.int .i64 y)).setCell ⟨r, 2, none⟩ (.int .u64 z)).setCell ⟨r, 3, none⟩ (.string d)) := by
  obtain ⟨q, hG, v, hO⟩ := h.out
  obtain ⟨g1, o1⟩ := fill_far hG Z hO hB hr x y z d
  exact ⟨q, g1, v, o1⟩
theorem Rl.size {B : Nat} {w W : World} {p m i : Nat} {a : Ad} {M : Nat → Option Pag} {now kept : List Pge} (h : Rl B w p a m i M now kept W) : w.heap.size ≤ W.heap.size := by
  obtain ⟨q, hG, v, hO⟩ := h.out; exact hO.size
theorem Rl.pl {B : Nat} {w W : World} {p m i : Nat} {a : Ad} {M : Nat → Option Pag} {now kept : List Pge} (h : Rl B w p a m i M now kept W) {B' g c : Nat} {l : List Pge} (k : PL B' w g c l) : PL B' W g c l := by
  obtain ⟨q, hG, v, hO⟩ := h.out; exact k.on hO

structure Fl (B : Nat) (w : World) (p : Nat) (a : Ad) (m i : Nat) (M : Nat → Option Pag) (now kept : List Pge) (k n g : Int) (s : ByteArray) (r : Nat) (W : World) : Prop where
  pg : P.Pg W r k n g s 55
  rl : Rl B w p a m i M now kept W
theorem Rl.fl {B : Nat} {w W : World} {p m i : Nat} {a : Ad} {M : Nat → Option Pag} {now kept : List Pge} (h : Rl B w p a m i M now kept W) (hB : B ≤ w.heap.size) {r : Nat} {k n g : Int} {s : ByteArray} (Z : P.Pg W r k n g s 55) (hr : w.heap.size ≤ r) (x y z : Int) (d : ByteArray) :
    Fl B w p a m i M now kept x y z d r ((((W.setCell ⟨r, 0, none⟩ (.int .i64 x)).setCell ⟨r, 1, none⟩ (.int .i64 y)).setCell ⟨r, 2, none⟩ (.int .u64 z)).setCell ⟨r, 3, none⟩ (.string d)) := ⟨Z.fill x y z d, h.fill hB Z hr x y z d⟩
theorem Rl.fl0 {B : Nat} {w W : World} {p m i : Nat} {a : Ad} {M : Nat → Option Pag} {now kept : List Pge} (h : Rl B w p a m i M now kept W) (hB : B ≤ w.heap.size) (x y z : Int) (d : ByteArray) :
    Fl B w p a m i M now kept x y z d W.heap.size (W.alloc (.cells #[.int .i64 x, .int .i64 y, .int .u64 z, .string d] 55)) := ⟨P.Pg.alloc W x y z d 55, h.kept hB ((D.Kept.refl W).alloc _)⟩

theorem Fl.next0 {B : Nat} {w W V w1 : World} {p m i j : Nat} {a : Ad} {M : Nat → Option Pag} {now kept : List Pge} {k n g : Int} {s : ByteArray} {xb : Nat} (h : Fl B w p a m i M now kept k n g s xb W) (hB : B ≤ w.heap.size) (hK : D.Kept W V) (o1 : On B V w1) (R1 : Rl B w p a m j M now kept w1) (o : Obj) :
    Fl B w p a m j M now kept k n g s xb (w1.alloc o) := ⟨⟨((D.Kept.refl w1).alloc o).block (o1.rows _ _ _ _ (hK.block h.pg.out) calm55)⟩, R1.kept hB ((D.Kept.refl w1).alloc o)⟩
theorem Fl.next {B : Nat} {w W V w1 : World} {p m i j : Nat} {a : Ad} {M : Nat → Option Pag} {now kept : List Pge} {k n g : Int} {s : ByteArray} {xb : Nat} (h : Fl B w p a m i M now kept k n g s xb W) (hB : B ≤ w.heap.size) (hK : D.Kept W V) (o1 : On B V w1) (R1 : Rl B w p a m j M now kept w1) {r : Nat} {k' n' g' : Int} {s' : ByteArray} (Z : P.Pg w1 r k' n' g' s' 55) (hr : W.heap.size ≤ r) (x y z : Int) (d : ByteArray) :
    Fl B w p a m j M now kept k n g s xb ((((w1.setCell ⟨r, 0, none⟩ (.int .i64 x)).setCell ⟨r, 1, none⟩ (.int .i64 y)).setCell ⟨r, 2, none⟩ (.int .u64 z)).setCell ⟨r, 3, none⟩ (.string d)) := by
  have hlt := h.pg.lt
  have e : ∀ (W : World) (i : Nat) (v : Value), (W.setCell ⟨r, i, none⟩ v).heap[xb]? = W.heap[xb]? := fun W i v => Below.heap_setCell W ⟨r, i, none⟩ v xb (by show xb ≠ r; omega)
  refine ⟨⟨?_⟩, R1.fill hB Z (Nat.le_trans h.rl.size hr) x y z d⟩
  rw [e, e, e, e]
  exact o1.rows _ _ _ _ (hK.block h.pg.out) calm55

abbrev Z55 : Obj := .cells #[.int .i64 0, .int .i64 0, .int .u64 0, .string ⟨#[]⟩] 55
theorem kinds_at (W : World) (k : Int) : (W.alloc (.cells #[.int .i64 k] 3)).drew.heap[W.heap.size]? = some (.cells #[.int .i64 k] 3) := heap_alloc_new W _
theorem kinds_at2 (W : World) (k : Int) : ((W.alloc Z55).alloc (.cells #[.int .i64 k] 3)).drew.heap[W.heap.size + 1]? = some (.cells #[.int .i64 k] 3) := by
  have := heap_alloc_new (W.alloc Z55) (.cells #[.int .i64 k] 3)
  rw [show (W.alloc Z55).heap.size = W.heap.size + 1 by show (W.heap.push _).size = _; rw [Array.size_push]] at this
  exact this
theorem kinds_at3 (W : World) (k : Int) : ((W.alloc (.cells #[.int .i64 k] 3)).alloc Z55).drew.heap[W.heap.size]? = some (.cells #[.int .i64 k] 3) := ((D.Kept.refl _).alloc Z55).block (heap_alloc_new W _)
theorem zero_at2 (W : World) (k : Int) : ((W.alloc Z55).alloc (.cells #[.int .i64 k] 3)).drew.heap[W.heap.size]? = some Z55 := ((D.Kept.refl _).alloc _).block (heap_alloc_new W _)
theorem zero_at3 (W : World) (k : Int) : ((W.alloc (.cells #[.int .i64 k] 3)).alloc Z55).drew.heap[W.heap.size + 1]? = some Z55 := by
  have := heap_alloc_new (W.alloc (.cells #[.int .i64 k] 3)) Z55
  rw [show (W.alloc (.cells #[.int .i64 k] 3)).heap.size = W.heap.size + 1 by show (W.heap.push _).size = _; rw [Array.size_push]] at this
  exact this

set_option maxRecDepth 100000 in
set_option maxHeartbeats 4000000 in
theorem reads_walk {B : Nat} {w : World} {p m i : Nat} {a : Ad} {q : Pq} {M : Nat → Option Pag} {now kept : List Pge} (hG : GA B w p a q) (hB : B ≤ w.heap.size) (v : Iv m i q M now kept) (hi : i < 40000) {B' g c : Nat} (hL : PL B' w g c now) (hl : now.length ≤ 100) :
    Calls Tryz.prog 17 #[.pointer (some ⟨p, 0, none⟩), .slice (some ⟨g, 0, none⟩) now.length c] w fun e w' => e = .returned (.bool true) ∧ Rl B w p a m (i + 2 * now.length) M now kept w' := by
  have H0 : Hid (Rl B w p a m (i + 2 * 0) M now kept w) := ⟨q, hG, v, On.refl _ _⟩
  have HL : Hid (PL B' w g c now) := hL
  have HF : Hid (∀ x ∈ now, Fit m x) := v.nowF
  have hl' : (now.length : Int) ≤ 100 := by omega
  clear hG v hL
  go_enter Tryz.func17, Tryz.ntmps17
  go_wp2
  go_loopg [5] now.length (fun n c wx => ∃ k : Nat, k + n = now.length ∧ c = .int .i64 k ∧ Rl B w p a m (i + 2 * k) M now kept wx)
  case atStart => exact ⟨0, by omega, rfl, H0.out⟩
  case round =>
    obtain ⟨k, hkn, rfl, hR⟩ := hrel
    by_cases hlt : k < now.length
    · obtain ⟨x, hx⟩ : ∃ x, now[k]? = some x := ⟨now[k], List.getElem?_eq_getElem hlt⟩
      have hxm := List.mem_of_getElem? hx
      obtain ⟨y, hy⟩ : ∃ y, y = i + 2 * k := ⟨_, rfl⟩
      rw [← hy] at hR
      obtain ⟨gg, F1, _⟩ := read_iv hR hB (by omega) hxm
      have HP := HL.out.on (B' := B) (by obtain ⟨_, _, _, hO⟩ := hR.out; exact hO)
      obtain ⟨c0, c1, c2⟩ := HP.cell hx
      have i1 : (0 : Int) ≤ (k : Int) := by omega
      have i2 : (k : Int) < (now.length : Int) := by omega
      have HX : Hid (now[k]? = some x ∧ y = i + 2 * k) := ⟨hx, hy⟩
      have HM : Hid (x ∈ now) := hxm
      have HR : Hid (Rl B w p a m y M now kept wr) := hR
      have HPL : Hid (PL B' wr g c now) := HP
      clear hx hR HP hxm hy
      obtain ⟨xn, xk, xs⟩ := x
      dsimp only at c0 c1 c2 F1
      have hwr := HR.out.size
      have fA := F1 ((wr.alloc (.cells #[.int .i64 xk] 3)).drew) wr.heap.size (((D.Kept.refl wr).alloc _).drew) (kinds_at wr xk)
      have fB := F1 (((wr.alloc (.cells #[.int .i64 0, .int .i64 0, .int .u64 0, .string ⟨#[]⟩] 55)).alloc (.cells #[.int .i64 xk] 3)).drew) (wr.heap.size + 1) ((((D.Kept.refl wr).alloc _).alloc _).drew) (kinds_at2 wr xk)
      have fC := F1 (((wr.alloc (.cells #[.int .i64 xk] 3)).alloc (.cells #[.int .i64 0, .int .i64 0, .int .u64 0, .string ⟨#[]⟩] 55)).drew) wr.heap.size ((((D.Kept.refl wr).alloc _).alloc _).drew) (kinds_at3 wr xk)
      clear F1
      have ca0 : ∀ o, (wr.alloc o).cell? ⟨g, k * 3, none⟩ = some (.int .i64 (xn : Nat)) := fun o => Lib.cell?_alloc_some o c0
      have ca1 : ∀ o, (wr.alloc o).cell? ⟨g, k * 3 + 1, none⟩ = some (.int .i64 xk) := fun o => Lib.cell?_alloc_some o c1
      have cb0 : ∀ o o', ((wr.alloc o).alloc o').cell? ⟨g, k * 3, none⟩ = some (.int .i64 (xn : Nat)) := fun o o' => Lib.cell?_alloc_some o' (Lib.cell?_alloc_some o c0)
      have cb1 : ∀ o o', ((wr.alloc o).alloc o').cell? ⟨g, k * 3 + 1, none⟩ = some (.int .i64 xk) := fun o o' => Lib.cell?_alloc_some o' (Lib.cell?_alloc_some o c1)
      go_upto_region 4 with fail
      go_cut [6, 7] from 10 to 75 (fun v6 v7 wx => ∃ xb, v6 = .pointer (some ⟨xb, 0, none⟩) ∧ v7 = .int .i64 0 ∧ Fl B w p a m (y + 1) M now kept xk (xn : Nat) (gg : Nat) xs xb wx)
      case first =>
        go_region_with (first
          | (go_at_call 21; (with_reducible refine fA.mono ?_); rintro e w1 ⟨rfl, R1, o1⟩; have HE := R1.fl0 hB xk (xn : Nat) (gg : Nat) xs; clear o1 R1)
          | (go_at_call 21; (with_reducible refine fB.mono ?_); rintro e w1 ⟨rfl, R1, o1⟩; have Z1 : P.Pg w1 wr.heap.size 0 0 0 ⟨#[]⟩ 55 := ⟨o1.rows _ _ _ _ (zero_at2 wr xk) calm55⟩; obtain ⟨⟨z0, h0⟩, ⟨z1, h1⟩, ⟨z2, h2⟩, z3, h3⟩ := Z1.ready xk (xn : Nat) (gg : Nat); have HE := R1.fl hB Z1 hwr xk (xn : Nat) (gg : Nat) xs; clear o1 R1)
          | (go_at_call 21; (with_reducible refine fC.mono ?_); rintro e w1 ⟨rfl, R1, o1⟩; have Z1 : P.Pg w1 (wr.heap.size + 1) 0 0 0 ⟨#[]⟩ 55 := ⟨o1.rows _ _ _ _ (zero_at3 wr xk) calm55⟩; obtain ⟨⟨z0, h0⟩, ⟨z1, h1⟩, ⟨z2, h2⟩, z3, h3⟩ := Z1.ready xk (xn : Nat) (gg : Nat); have HE := R1.fl hB Z1 (Nat.le_succ_of_le hwr) xk (xn : Nat) (gg : Nat) xs; clear o1 R1)
          | (go_at_call 21; trace_state; fail))
        all_goals (go_wp2_with fail)
        all_goals go_meet
        all_goals exact ⟨_, rfl, rfl, HE⟩
      case rest =>
        obtain ⟨xb, rfl, rfl, hFl⟩ := hcut
        clear fA fB fC ca0 ca1 cb0 cb1 c0 c1 c2
        obtain ⟨gg2, _, F2⟩ := read_iv hFl.rl hB (by have := HX.out.2; omega) HM.out
        obtain ⟨c0, c1, c2⟩ := (hFl.rl.pl HL.out).cell HX.out.1
        dsimp only at F2 c0 c1 c2
        have hf := HF.out _ HM.out
        have k1 : 1 ≤ xk := hf.2.2.1
        have k4 : xk ≤ 4 := hf.2.2.2.1
        clear hf
        obtain ⟨kd, hkd⟩ : ∃ kd, IntKind.i64.wrap (xk.tmod 4 + 1) = kd := ⟨_, rfl⟩
        have hk : xk % 4 + 1 = kd := by
          rw [← hkd]
          obtain rfl | rfl | rfl | rfl : xk = 1 ∨ xk = 2 ∨ xk = 3 ∨ xk = 4 := by omega
          all_goals rfl
        rw [hk] at F2
        clear hk k1 k4
        have hwc := hFl.rl.size
        have fA := F2 ((wc.alloc (.cells #[.int .i64 kd] 3)).drew) wc.heap.size (((D.Kept.refl wc).alloc _).drew) (kinds_at wc kd)
        have fB := F2 (((wc.alloc (.cells #[.int .i64 0, .int .i64 0, .int .u64 0, .string ⟨#[]⟩] 55)).alloc (.cells #[.int .i64 kd] 3)).drew) (wc.heap.size + 1) ((((D.Kept.refl wc).alloc _).alloc _).drew) (kinds_at2 wc kd)
        have fC := F2 (((wc.alloc (.cells #[.int .i64 kd] 3)).alloc (.cells #[.int .i64 0, .int .i64 0, .int .u64 0, .string ⟨#[]⟩] 55)).drew) wc.heap.size ((((D.Kept.refl wc).alloc _).alloc _).drew) (kinds_at3 wc kd)
        clear F2
        have ca0 : ∀ o, (wc.alloc o).cell? ⟨g, k * 3, none⟩ = some (.int .i64 (xn : Nat)) := fun o => Lib.cell?_alloc_some o c0
        have ca1 : ∀ o, (wc.alloc o).cell? ⟨g, k * 3 + 1, none⟩ = some (.int .i64 xk) := fun o => Lib.cell?_alloc_some o c1
        have cb0 : ∀ o o', ((wc.alloc o).alloc o').cell? ⟨g, k * 3, none⟩ = some (.int .i64 (xn : Nat)) := fun o o' => Lib.cell?_alloc_some o' (Lib.cell?_alloc_some o c0)
        have cb1 : ∀ o o', ((wc.alloc o).alloc o').cell? ⟨g, k * 3 + 1, none⟩ = some (.int .i64 xk) := fun o o' => Lib.cell?_alloc_some o' (Lib.cell?_alloc_some o c1)
        have hxb : xb < wc.heap.size := hFl.pg.lt
        have HFl : Hid (Fl B w p a m (y + 1) M now kept xk (xn : Nat) (gg : Nat) xs xb wc) := hFl
        clear hFl
        go_upto_region 5 with fail
        go_cut [6, 7, 8, 9] from 10 to 75 (fun v6 v7 v8 v9 wx => v6 = .pointer (some ⟨xb, 0, none⟩) ∧ v7 = .int .i64 0 ∧ v9 = .int .i64 82 ∧ Fl B w p a m (y + 2) M now kept xk (xn : Nat) (gg : Nat) xs xb wx)
        case first =>
          go_region_with (first
            | (go_at_call 21; (with_reducible refine fA.mono ?_); rintro e w1 ⟨rfl, R1, o1⟩; have HE := HFl.out.next0 hB (((D.Kept.refl wc).alloc _).drew) o1 R1 (.cells #[.int .i64 0, .int .i64 0, .int .u64 0, .string ⟨#[]⟩] 55); clear o1 R1)
            | (go_at_call 21; (with_reducible refine fB.mono ?_); rintro e w1 ⟨rfl, R1, o1⟩; have Z1 : P.Pg w1 wc.heap.size 0 0 0 ⟨#[]⟩ 55 := ⟨o1.rows _ _ _ _ (zero_at2 wc kd) calm55⟩; obtain ⟨⟨z0, h0⟩, ⟨z1, h1⟩, ⟨z2, h2⟩, z3, h3⟩ := Z1.ready 0 0 0; have HE := HFl.out.next hB ((((D.Kept.refl wc).alloc _).alloc _).drew) o1 R1 Z1 (Nat.le_refl _) 0 0 0 ⟨#[]⟩; clear o1 R1)
            | (go_at_call 21; (with_reducible refine fC.mono ?_); rintro e w1 ⟨rfl, R1, o1⟩; have Z1 : P.Pg w1 (wc.heap.size + 1) 0 0 0 ⟨#[]⟩ 55 := ⟨o1.rows _ _ _ _ (zero_at3 wc kd) calm55⟩; obtain ⟨⟨z0, h0⟩, ⟨z1, h1⟩, ⟨z2, h2⟩, z3, h3⟩ := Z1.ready 0 0 0; have HE := HFl.out.next hB ((((D.Kept.refl wc).alloc _).alloc _).drew) o1 R1 Z1 (Nat.le_succ _) 0 0 0 ⟨#[]⟩; clear o1 R1)
            | (go_at_call 21; trace_state; fail))
          all_goals (go_wp2_with fail)
          all_goals go_meet
          all_goals exact ⟨rfl, rfl, rfl, HE⟩
        case rest =>
          obtain ⟨rfl, rfl, rfl, hFl2⟩ := hcut
          clear fA fB fC ca0 ca1 cb0 cb1 c0 c1 c2
          obtain ⟨c0, c1, c2⟩ := (hFl2.rl.pl HL.out).cell HX.out.1
          obtain ⟨p0, p1, p2, p3⟩ := hFl2.pg.cs
          dsimp only at c0 c1 c2
          have HF2 : Hid (Rl B w p a m (y + 2) M now kept wc) := hFl2.rl
          clear hFl2
          go_wp2
          go_quiet (fail)
          go_wp2
          obtain ⟨n', rfl⟩ : ∃ n', gk = n' + 1 := ⟨gk - 1, by omega⟩
          go_roundg n'
          case measure => omega
          case rel => exact ⟨k + 1, by omega, by go_num, by rw [show i + 2 * (k + 1) = y + 2 by have := HX.out.2; omega]; exact HF2.out.kept hB ((D.Kept.refl _).drewN _)⟩
    · have hkl : k = now.length := by omega
      subst hkl
      have HR : Hid (Rl B w p a m (i + 2 * now.length) M now kept wr) := hR
      clear hR
      go_wp2
      go_ret
      exact ⟨rfl, HR.out⟩
end Go.Proofs.YthlhnjjofefgcaaGreatDoor.G
