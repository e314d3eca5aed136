/- What the statement on acts keeps beside the places: its own list of what is used, and how many are free. No condition. -/
import Derived.Test.YticfelpghchnpaaDoorWalkF
namespace Go.Proofs.YticfelpghchnpaaDoor
open Go.ChangeShapes Go.WideShapes Go.ChangeAt Go.RowKit

theorem calm4 : Calm 4 := by unfold Calm; decide

theorem SAt.other {B : Nat} {w : World} {b m l : Nat} {u : Nat → Bool} (h : SAt B w b m l u) {g i : Nat} {cs : Array Value} {t : TypeId} {fr : Nat × Nat} (hg : w.heap[g]? = some (.cells cs t fr)) (ht : Calm t) (x : Value) : SAt B (w.setCell ⟨g, i, none⟩ x) b m l u := by
  obtain ⟨ws, v, k, hu⟩ := h.out
  refine ⟨ws, v, ⟨?_, own_set (i := i) k.row hg ht.2 x, k.leb, k.few, k.free, k.long, k.word⟩, hu⟩
  rw [Below.heap_setCell w ⟨g, i, none⟩ x b (fun e => ?_)]
  · exact k.blk
  · have e' : b = g := e
    subst e'
    rw [k.blk] at hg
    injection hg with hg
    injection hg with _ e2 _
    exact ht.1 e2.symm

theorem UAt.blk {w : World} {g c : Nat} {us : List Bool} (h : UAt w (.slice (some ⟨g, 0, none⟩) us.length c) us) : ∃ cs, w.heap[g]? = some (.cells cs 4) := by
  rcases h.row.2 with ⟨e, _⟩ | ⟨g', cap, cur, e, _, hg, _⟩
  · cases e
  · injection e with e
    injection e with e
    injection e with e
    subst e
    exact ⟨_, hg⟩
theorem UAt.on {w w' : World} {B : Nat} {v : Value} {us : List Bool} (h : UAt w v us) (o : On B w w') : UAt w' v us := by
  refine ⟨⟨h.row.1, ?_⟩, h.form⟩
  rcases h.row.2 with e | ⟨g, cap, cur, h1, h2, h3, h4⟩
  · exact .inl e
  · exact .inr ⟨g, cap, cur, h1, h2, o.rows _ _ _ _ h3 calm4, h4⟩
theorem UAt.kept {w w' : World} {v : Value} {us : List Bool} (h : UAt w v us) (o : Kept w w') : UAt w' v us := h.on (o.on (Nat.zero_le _))
theorem UAt.put {w : World} {g c n : Nat} {us : List Bool} (h : UAt w (.slice (some ⟨g, 0, none⟩) n c) us) (hn : us.length = n) (a : Nat) (x : Bool) : UAt (w.setCell ⟨g, a, none⟩ (.bool x)) (.slice (some ⟨g, 0, none⟩) n c) (us.set a x) := by
  subst hn
  obtain ⟨r1, _⟩ := h.row.stored a (.bool x)
  refine ⟨?_, ?_⟩
  · rw [List.length_set, List.map_set]; exact r1
  · rw [List.length_set]; exact h.form

/-- How many are free. -/
def freeN (us : List Bool) : Nat := us.count false
theorem freeN_le (us : List Bool) : freeN us ≤ us.length := List.count_le_length
theorem usedIn_get (us : List Bool) (a : Nat) (h : a < us.length) : usedIn us a = us[a] := by
  unfold usedIn; rw [List.getD_eq_getElem?_getD, List.getElem?_eq_getElem h]; rfl
theorem freeN_use : ∀ (us : List Bool) (a : Nat), a < us.length → usedIn us a = false → freeN (us.set a true) + 1 = freeN us
  | x :: r, 0, _, e => by
    have : x = false := e
    subst this
    simp [freeN]
  | x :: r, a + 1, h, e => by
    have ih := freeN_use r a (by simpa using h) e
    cases x <;> simp [freeN] at ih ⊢ <;> omega
theorem freeN_free : ∀ (us : List Bool) (a : Nat), a < us.length → usedIn us a = true → freeN (us.set a false) = freeN us + 1
  | x :: r, 0, _, e => by
    have : x = true := e
    subst this
    simp [freeN]
  | x :: r, a + 1, h, e => by
    have ih := freeN_free r a (by simpa using h) e
    cases x <;> simp [freeN] at ih ⊢ <;> omega
theorem freeN_lt (us : List Bool) (a : Nat) (h : a < us.length) (e : usedIn us a = true) : freeN us < us.length := by
  have h1 := freeN_free us a h e
  have h2 := freeN_le (us.set a false)
  rw [List.length_set] at h2
  omega
theorem usedIn_set (us : List Bool) (a j : Nat) (x : Bool) (h : a < us.length) : usedIn (us.set a x) j = if j = a then x else usedIn us j := by
  unfold usedIn
  simp only [List.getD_eq_getElem?_getD, List.getElem?_set]
  by_cases e : a = j
  · subst e; simp [h]
  · have e' : ¬ j = a := fun q => e q.symm
    simp [e, e']
theorem freeN_take (us : List Bool) (k : Nat) (h : k < us.length) : freeN (us.take (k + 1)) = freeN (us.take k) + if usedIn us k = true then 0 else 1 := by
  rw [usedIn_get us k h, List.take_succ_eq_append_getElem h]
  unfold freeN
  rw [List.count_append]
  cases us[k] <;> simp

/-- Acts that came in. -/
structure Given (W : World) (p : Option Addr) (n : Nat) where
  bl : Nat
  off : Nat
  what : Nat → Int
  at_ : Nat → Int
  long : n ≤ 9223372036854775807
  ptr : 0 < n → p = some ⟨bl, off, none⟩
  c0 : ∀ j, j < n → W.cell? ⟨bl, off + j * 2, none⟩ = some (.int .i64 (what j))
  c1 : ∀ j, j < n → W.cell? ⟨bl, off + j * 2 + 1, none⟩ = some (.int .i64 (at_ j))
  fits : ∀ j, j < n → at_ j < 9223372036854775808

theorem both_first {u : Nat → Bool} {us : List Bool} {m k : Nat} {r s : Int} (h : IsFirst u m k r) (g : IsFirst (usedIn us) us.length k s) (hm : us.length = m) (e : ∀ i, i < m → u i = usedIn us i) : r = s := by
  subst hm
  exact (h.congr e).unique g

theorem bit_of (a : Int) : ∃ t : Nat, t < 2 ∧ bits .and .i64 a 1 = (t : Int) := by
  obtain ⟨x, h1, h2⟩ := low 1 1 (by omega) (by decide) a
  exact ⟨x, h1, h2⟩
theorem info4 : (Tryd.prog.info? 4).map (fun i => (i.zero, i.size, i.bytes)) = some (some (.bool false), 1, 1) := by kernel_rfl
end Go.Proofs.YticfelpghchnpaaDoor
