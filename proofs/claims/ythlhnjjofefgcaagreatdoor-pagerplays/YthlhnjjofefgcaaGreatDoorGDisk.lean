/- What a pager's writes leave on a disk, in plain words. No condition but those that each row names. -/
import Derived.Test.YthlhnjjofefgcaaGreatDoorGPlain
import Derived.Test.YthlhnjjofefgcaaGreatDoorGWalkC
import Derived.Test.YthlhnjjofefgcaaGreatDoorGWalkK
namespace Go.Proofs.YthlhnjjofefgcaaGreatDoor.G
open D (Dk Ok Sec Wr Ct settled settle1 whole)
open P (bs supL Sup supP Small)

theorem Wrt.live {d0 d : Dk} {ws : List Wr} (h : Wrt d0 ws d) {k : Nat} (hl : Liv d0 (ws.length + 1 + k)) : Liv d k :=
  ⟨h.flu.up, fun c r hc => by have := hl.far c r (h.cuts ▸ hc); rw [h.since]; omega⟩
theorem Pend.live {d0 d : Dk} {ws : List Wr} (h : Pend d0 ws d) {k : Nat} (hl : Liv d0 (ws.length + k)) : Liv d k :=
  ⟨h.up, fun c r hc => by have := hl.far c r (h.cuts ▸ hc); rw [h.since]; omega⟩

theorem setl_live {d : Dk} (h : Flu d) (hl : Liv d 2) (n : Nat) (hn : n < d.secs.length) (s : ByteArray) (hs : s.size ≤ 256) : ∃ d', setl d (n : Nat) s = (d', 0) ∧ Wrt d [⟨n, whole s⟩] d' := by
  have e1 := write_live (hl.mono (by omega)) n hn s hs
  have p1 := (Pend.nil h).write h ⟨n, whole s⟩ hn (by intro _ h; cases h)
  have e2 := flush_live (p1.live (k := 1) hl)
  refine ⟨_, ?_, p1.flush h⟩
  unfold setl
  rw [e1, if_neg (by simp), e2]

/-- New pages as writes. -/
def wrl (M : Nat → Option Pag) (l : List Nat) : List Wr := l.map (fun n => ⟨n, whole (secOf M n)⟩)

theorem wrs_live (M : Nat → Option Pag) (hM : ∀ n, (secOf M n).size ≤ 256) {d0 : Dk} (h0 : Flu d0) : ∀ (l : List Nat) (ws : List Wr) (d : Dk), Pend d0 ws d → Liv d l.length → l.Pairwise (· ≠ ·) → (∀ n ∈ l, n < d0.secs.length ∧ ∀ y ∈ ws, y.sec ≠ n) →
    ∃ d', wrs M d l = (d', 0) ∧ Pend d0 (ws ++ wrl M l) d'
  | [], ws, d, h, _, _, _ => ⟨d, rfl, by simpa [wrl] using h⟩
  | n :: l, ws, d, h, hl, nd, hn => by
    obtain ⟨hn1, hn2⟩ := hn n (by simp)
    have e1 := write_live (hl.mono (by simp)) n (by rw [h.len]; exact hn1) (secOf M n) (hM n)
    have p1 := h.write h0 ⟨n, whole (secOf M n)⟩ hn1 hn2
    have l1 : Liv (d.wait ⟨n, whole (secOf M n)⟩).begin l.length := begin_live (wait_live hl)
    obtain ⟨nd1, nd2⟩ := List.pairwise_cons.1 nd
    obtain ⟨d', e2, p2⟩ := wrs_live M hM h0 l _ _ p1 l1 nd2 (fun k hk => ⟨(hn k (by simp [hk])).1, fun y hy => by
      rcases List.mem_append.1 hy with hy | hy
      · exact (hn k (by simp [hk])).2 y hy
      · rw [List.mem_singleton.1 hy]; exact nd1 k hk⟩)
    refine ⟨d', ?_, ?_⟩
    · unfold wrs
      rw [e1, if_neg (by simp)]
      exact e2
    · have e3 : ws ++ wrl M (n :: l) = ws ++ [⟨n, whole (secOf M n)⟩] ++ wrl M l := by simp [wrl]
      rw [e3]; exact p2

theorem whole_full (s : ByteArray) (h : s.size = 256) : whole s = s := by
  unfold whole
  rw [h]
  cases s
  simp
theorem sup_size (g : Nat) (r : Int) : (bs (supL g r)).size ≤ 256 := by
  rw [P.bs_size]
  by_cases h : Sup g r
  · rw [P.supL_yes h, P.supP_length h]; exact Nat.le_refl _
  · rw [P.supL_no h]; simp
theorem sup_whole {g : Nat} {r : Int} (h : Sup g r) : whole (bs (supL g r)) = bs (supP g r) := by
  rw [P.supL_yes h]
  exact whole_full _ (by rw [P.bs_size, P.supP_length h])
theorem sec_size (M : Nat → Option Pag) (n : Nat) : (secOf M n).size ≤ 256 := by
  unfold secOf; rw [P.bs_size]; exact P.putL_length _ _ _ _

/-- A commit goes on to its end. -/
theorem wrt_live (M : Nat → Option Pag) {d : Dk} (h : Flu d) {l : List Nat} (hl : Liv d (l.length + 3)) (nd : l.Pairwise (· ≠ ·)) (hn : ∀ n ∈ l, n < d.secs.length) (h2 : 2 ≤ d.secs.length) (g : Nat) (r : Int) (hs : Sup g r) :
    ∃ d1 d', wrt M d l g r = (d', 0, false) ∧ Wrt d (wrl M l) d1 ∧ Wrt d1 [⟨g % 2, bs (supP g r)⟩] d' := by
  obtain ⟨dp, e1, p1⟩ := wrs_live M (sec_size M) h l [] d (Pend.nil h) (hl.mono (by omega)) nd (fun n hn' => ⟨hn n hn', by intro _ h; cases h⟩)
  rw [List.nil_append] at p1
  have hlen : (wrl M l).length = l.length := by simp [wrl]
  have l1 : Liv dp 3 := p1.live (by rw [hlen]; exact hl)
  have e2 := flush_live (l1.mono (j := 1) (by omega))
  have w1 := p1.flush h
  have l2 : Liv dp.begin.good 2 := w1.live (by rw [hlen]; exact hl)
  obtain ⟨d', e3, w2⟩ := setl_live w1.flu l2 (g % 2) (by rw [w1.len]; omega) (bs (supL g r)) (sup_size g r)
  rw [sup_whole hs] at w2
  refine ⟨_, d', ?_, w1, w2⟩
  unfold wrt
  rw [e1, if_neg (by simp), e2, if_neg (by simp)]
  unfold comt
  rw [e3]
  rfl

theorem sup11 : Sup 1 (-1) := by unfold Sup; decide

/-- A disk is formatted. -/
theorem fmtd_live {d : Dk} (h : Flu d) (hl : Liv d 5) (h2 : 2 ≤ d.secs.length) : ∃ d1 d', fmtd d = (d', 0) ∧ Wrt d [⟨0, whole ⟨#[]⟩⟩, ⟨1, whole ⟨#[]⟩⟩] d1 ∧ Wrt d1 [⟨1, bs (supP 1 (-1))⟩] d' := by
  have e1 : d.write 0 ⟨#[]⟩ = _ := write_live (hl.mono (j := 1) (by omega)) 0 (by omega) ⟨#[]⟩ (by decide)
  have p1 := (Pend.nil h).write h ⟨0, whole ⟨#[]⟩⟩ (show 0 < _ by omega) (by intro _ h; cases h)
  have l1 : Liv (d.wait ⟨0, whole ⟨#[]⟩⟩).begin 4 := p1.live hl
  have e2 : (d.wait ⟨0, whole ⟨#[]⟩⟩).begin.write 1 ⟨#[]⟩ = _ := write_live (l1.mono (j := 1) (by omega)) 1 (by rw [p1.len]; omega) ⟨#[]⟩ (by decide)
  have p2 := p1.write h ⟨1, whole ⟨#[]⟩⟩ (show 1 < _ by omega) (by intro y hy; simp at hy; subst hy; decide)
  have l2 : Liv ((d.wait ⟨0, whole ⟨#[]⟩⟩).begin.wait ⟨1, whole ⟨#[]⟩⟩).begin 3 := p2.live hl
  have e3 := flush_live (l2.mono (j := 1) (by omega))
  have w1 := p2.flush h
  obtain ⟨d', e4, w2⟩ := setl_live w1.flu (w1.live (k := 2) hl) 1 (by rw [w1.len]; omega) (bs (supL 1 (-1))) (sup_size _ _)
  rw [sup_whole sup11] at w2
  refine ⟨_, d', ?_, w1, w2⟩
  have es : setl (d.wait ⟨0, whole ⟨#[]⟩⟩).begin 1 ⟨#[]⟩ = (((d.wait ⟨0, whole ⟨#[]⟩⟩).begin.wait ⟨1, whole ⟨#[]⟩⟩).begin.begin.good, 0) := by
    unfold setl
    rw [e2, if_neg (by simp), e3]
  unfold fmtd
  rw [e1, if_neg (by simp), es, if_neg (by simp)]
  exact e4

theorem begin_flu {d : Dk} (h : Flu d) : Flu d.begin := ⟨h.waits, h.last, h.up⟩
/-- What a flushed sector says. -/
def sayS (s : Sec) : ByteArray × Int := if s.torn then (⟨#[]⟩, 41) else (s.kept, 0)
theorem read_flu {d : Dk} (h : Flu d) (hl : Liv d 1) {n : Nat} {s : Sec} (hs : d.secs[n]? = some s) : d.read (n : Nat) = (d.begin, sayS s) := by
  have hn : n < d.secs.length := (List.getElem?_eq_some_iff.1 hs).1
  rw [read_live hl n hn]
  have hz := h.last n s hs
  have e : d.begin.says n = sayS s := by
    unfold Dk.says
    show (match d.secs[n]? with | none => _ | some s => _) = _
    rw [hs]
    dsimp only
    rw [hz]
    rfl
  rw [e]

theorem bs_inj {l k : List Nat} (hl : Small l) (hk : Small k) (h : bs l = bs k) : l = k := by
  have := P.bs_eq hl hk
  rw [h] at this
  simpa using this.symm

theorem zeros_n (n : Nat) : (⟨#[] ++ Array.replicate n 0⟩ : ByteArray) = bs (List.replicate n 0) := by
  unfold bs
  simp
theorem zeros_are : whole ⟨#[]⟩ = bs (List.replicate 256 0) := by
  have e : 256 - (⟨#[]⟩ : ByteArray).size = 256 := rfl
  unfold whole
  rw [e]
  exact zeros_n 256
theorem sd_zeros (a : Nat) : Sd (whole ⟨#[]⟩) a none := by
  intro g r h1 h2
  rw [zeros_are] at h2
  have hz : Small (List.replicate 256 0) := by intro x hx; rw [List.eq_of_mem_replicate hx]; decide
  have e := bs_inj hz (P.supP_small g r) h2
  have e1 := (P.supP_okk h1).2.1
  rw [← e] at e1
  have e2 : P.fK (List.replicate 256 0) = 0 := by decide
  rw [e2] at e1
  cases e1
theorem sd_empty (a : Nat) : Sd ⟨#[]⟩ a none := by
  intro g r h1 h2
  have e : (bs (supP g r)).size = 256 := by rw [P.bs_size, P.supP_length h1]
  rw [← h2] at e
  cases e
theorem sd_state {g : Nat} {r : Int} (h : Sup g r) {a : Nat} (ha : g % 2 = a) : Sd (bs (supP g r)) a (some (g, r)) := ⟨h, rfl, ha⟩
end Go.Proofs.YthlhnjjofefgcaaGreatDoor.G
