/- Joined: TA. What is proved of the functions beneath StoreNone. Conditions: those that each row names. -/
import Derived.Test.YtifeihnhkbagpaaGreatDoorZar
import Derived.Test.YtifeihnhkbagpaaGreatDoorZba
namespace Go.Proofs.YtifeihnhkbagpaaGreatDoor.T
open Go.ChangeShapes Go.WideShapes Go.ChangeAt Go.RowKit
open B (Pm pt drp)
open N (Nd)

theorem index_one {w : World} {b : Nat} {k : Int} (hc : w.cell? ⟨b, 0, none⟩ = some (.int .i64 k)) : Calls Tryz.prog 207 #[.slice (some ⟨b, 0, none⟩) 2 2, .int .i64 k] w fun e w' => e = .returned (.int .i64 0) ∧ w' = w := by
  go_enter Tryz.func207, Tryz.ntmps207
  go_wp2
  refine wp_loop_rounds 1 ?_
  rw [rounds_succ]
  go_wp2
  go_ret
  exact ⟨rfl, rfl⟩
theorem index_two {w : World} {b : Nat} {j k : Int} (hc : w.cell? ⟨b, 0, none⟩ = some (.int .i64 j)) (hd : w.cell? ⟨b, 1, none⟩ = some (.int .i64 k)) (hv : ¬ k = j) : Calls Tryz.prog 207 #[.slice (some ⟨b, 0, none⟩) 2 2, .int .i64 k] w fun e w' => e = .returned (.int .i64 1) ∧ w' = w := by
  go_enter Tryz.func207, Tryz.ntmps207
  go_wp2
  refine wp_loop_rounds 2 ?_
  rw [rounds_succ]
  go_wp2
  rw [rounds_succ]
  go_wp2
  go_ret
  exact ⟨rfl, rfl⟩
def kindOf (x : Nd) : Int := if x.leaf = true then 2 else 3
theorem contains_kind {w : World} {b : Nat} (x : Nd) (hc : w.cell? ⟨b, 0, none⟩ = some (.int .i64 2)) (hd : w.cell? ⟨b, 1, none⟩ = some (.int .i64 3)) : Calls Tryz.prog 166 #[.slice (some ⟨b, 0, none⟩) 2 2, .int .i64 (kindOf x)] w fun e w' => e = .returned (.bool true) ∧ w' = w := by
  unfold kindOf
  split
  · have f := index_one hc
    go_enter Tryz.func166, Tryz.ntmps166
    go_wp2_with (go_at_call 207; (with_reducible refine f.mono ?_); rintro e w1 ⟨rfl, hw1⟩; rw [hw1]; clear hw1)
    go_ret
    exact ⟨rfl, rfl⟩
  · have f := index_two hc hd (by decide)
    go_enter Tryz.func166, Tryz.ntmps166
    go_wp2_with (go_at_call 207; (with_reducible refine f.mono ?_); rintro e w1 ⟨rfl, hw1⟩; rw [hw1]; clear hw1)
    go_ret
    exact ⟨rfl, rfl⟩

structure Xm where
  n : Nat
  d : Nat
  g : Nat
  dk : D.Dk
  gen : Nat
  root : Int
  Y : Nat → Option G.Pag
def frs (m : Xm) (M : Pm) (k : Nat) : Option G.Pag := match M k with
  | some x => some ⟨kindOf x, (k : Nat), m.gen + 1, N.bs x.put⟩
  | none => m.Y k
def tkn (m : Xm) (M : Pm) (k : Nat) : Bool := decide (k < 2) || (M k).isSome || (m.Y k).isSome
structure Pv (B : Nat) (W : World) (p : Nat) (m : Xm) (M : Pm) : Prop where
  out : ∃ q, G.GAt B W p m.d m.g q ∧ q.m = m.n ∧ (q.gen = m.gen ∧ q.disk = m.dk ∧ q.root = m.root ∧ q.doubt = false ∧ ∀ k, q.held k = none) ∧ (∀ k, q.fresh k = frs m M k) ∧ (∀ k, k < m.n → q.ut k = tkn m M k) ∧ (∀ k, k < m.n → q.un k = tkn m M k) ∧ (∀ k, k < m.n → q.uk k = decide (k < 2))
  rng : ∀ k x, M k = some x → 2 ≤ k ∧ k < m.n ∧ x.put.length ≤ 237 ∧ m.Y k = none
  oth : ∀ k x, m.Y k = some x → 2 ≤ k ∧ k < m.n
  fine : m.gen < 4000 ∧ m.dk.cuts = []
  few : m.n ≤ 1024
  two : 2 ≤ m.n

theorem Pv.kept {B : Nat} {W W' : World} {p : Nat} {m : Xm} {M : Pm} (h : Pv B W p m M) (k : N.Kept W W') : Pv B W' p m M := by
  obtain ⟨q, ⟨a, e1, e2, hG⟩, r⟩ := h.out
  exact ⟨⟨q, ⟨a, e1, e2, hG.kept ⟨k.out⟩⟩, r⟩, h.rng, h.oth, h.fine, h.few, h.two⟩
structure Ac (w w' : World) : Prop where
  cells : ∀ (k : Nat) (cs : Array Value) (t : TypeId) (fr : Nat × Nat), w.heap[k]? = some (.cells cs t fr) → (t = 66 ∨ t = 60 ∨ t = 145 ∨ t = 106 ∨ t = 161 ∨ t = 53) → w'.heap[k]? = some (.cells cs t fr)
structure Ap (w w' : World) : Prop where
  cells : ∀ (k : Nat) (cs : Array Value) (t : TypeId) (fr : Nat × Nat), w.heap[k]? = some (.cells cs t fr) → (t = 66 ∨ t = 60 ∨ t = 145 ∨ t = 106 ∨ t = 161 ∨ t = 53) → w'.heap[k]? = some (.cells cs t fr)
  maps : ∀ (k : Nat) (es : Array MapEntry) (c : Nat), w.heap[k]? = some (.map es c) → w'.heap[k]? = some (.map es c)
theorem Ap.ofKept {w w' : World} (k : N.Kept w w') : Ap w w' := ⟨fun b _ _ _ h _ => (k.out.block b (Array.getElem?_eq_some_iff.1 h).1).trans h, fun b _ _ h => (k.out.block b (Array.getElem?_eq_some_iff.1 h).1).trans h⟩
theorem Ap.trans {a b c : World} (h : Ap a b) (k : Ap b c) : Ap a c := ⟨fun x cs t fr hx ht => k.cells x cs t fr (h.cells x cs t fr hx ht) ht, fun x es q hx => k.maps x es q (h.maps x es q hx)⟩
theorem Ap.other {w w' : World} {b : Nat} {cs : Array Value} {t : TypeId} {fr : Nat × Nat} (hb : w.heap[b]? = some (.cells cs t fr)) (ht : ¬ (t = 66 ∨ t = 60 ∨ t = 145 ∨ t = 106 ∨ t = 161 ∨ t = 53)) (ho : ∀ k o, w.heap[k]? = some o → k ≠ b → w'.heap[k]? = some o) : Ap w w' := by
  refine ⟨fun k cs' t' fr' h h2 => ho k _ h ?_, fun k es c h => ho k _ h ?_⟩
  · rintro rfl
    rw [hb] at h
    injection h with h
    injection h with _ e _
    exact ht (e ▸ h2)
  · rintro rfl
    rw [hb] at h
    injection h with h
    cases h
theorem Ap.grown {w w' : World} {r : Option Nat} (hg : w.grownBy w' r) (hr : ∀ b, r = some b → ∃ cs t fr, w.heap[b]? = some (.cells cs t fr) ∧ ¬ (t = 66 ∨ t = 60 ∨ t = 145 ∨ t = 106 ∨ t = 161 ∨ t = 53)) : Ap w w' := by
  cases r with
  | none => exact ⟨fun b _ _ _ h _ => (hg.block b (Array.getElem?_eq_some_iff.1 h).1 (by simp)).trans h, fun b _ _ h => (hg.block b (Array.getElem?_eq_some_iff.1 h).1 (by simp)).trans h⟩
  | some b =>
    obtain ⟨cs, t, fr, hb, ht⟩ := hr b rfl
    exact Ap.other hb ht (fun k o hk hne => (hg.block k (Array.getElem?_eq_some_iff.1 hk).1 (by simpa using hne)).trans hk)
theorem disk_ap {B : Nat} {w w' : World} {b g : Nat} {d : D.Dk} (h : D.DiskAt B w b g d) (hd : d.cuts = []) (k : Ac w w') : D.DiskAt B w' b g d := by
  obtain ⟨vw, vc, a⟩ := h.out
  obtain ⟨cur, hg, hc⟩ := a.secs.out
  refine ⟨vw, vc, ⟨k.cells _ _ _ _ a.blk (by decide), ⟨cur, k.cells _ _ _ _ hg (by decide), hc⟩, ⟨a.waits.1, ?_⟩, ?_, a.leb, a.leg⟩⟩
  · rcases a.waits.2 with h1 | ⟨r, cap, cu, e1, e2, e3, e4⟩
    · exact .inl h1
    · exact .inr ⟨r, cap, cu, e1, e2, k.cells _ _ _ _ e3 (by decide), e4⟩
  · obtain ⟨p, c, hv, h1, h2, h3⟩ := a.cuts.out
    refine ⟨p, c, hv, h1, h2, fun j hj => ?_⟩
    rw [hd] at hj
    simp at hj
theorem sa_ap {w w' : World} {b g m l : Nat} {u : Nat → Bool} (h : S.SA w b g m l u) (k : Ac w w') : S.SA w' b g m l u := by
  obtain ⟨⟨_, _, h1⟩, _, _, h2⟩ := h.blocks
  exact h.same ((k.cells _ _ _ _ h1 (by decide)).trans h1.symm) ((k.cells _ _ _ _ h2 (by decide)).trans h2.symm)
theorem ma_ap {w w' : World} {b : Nat} {M : Nat → Option G.Pag} (h : G.MAt w b M) (k : Ap w w') : G.MAt w' b M := by
  obtain ⟨_, _, h1⟩ := h.block
  exact h.same ((k.maps _ _ _ h1).trans h1.symm)
theorem Pv.ap {B : Nat} {W W' : World} {p : Nat} {m : Xm} {M : Pm} (h : Pv B W p m M) (k : Ap W W') : Pv B W' p m M := by
  obtain ⟨q, ⟨a, e1, e2, hG⟩, hm, hg, r⟩ := h.out
  exact ⟨⟨q, ⟨a, e1, e2, ⟨k.cells _ _ _ _ hG.blk (by decide), disk_ap hG.disk (by rw [hg.2.1]; exact h.fine.2) ⟨k.cells⟩, sa_ap hG.sk ⟨k.cells⟩, sa_ap hG.st ⟨k.cells⟩, sa_ap hG.sn ⟨k.cells⟩, ma_ap hG.fm k, ma_ap hG.hm k, hG.ne, hG.le⟩⟩, hm, hg, r⟩, h.rng, h.oth, h.fine, h.few, h.two⟩

def frst (M : Pm) (m : Xm) : Option Nat := (List.range m.n).find? fun n => !tkn m M n
theorem frst_none {M : Pm} {m : Xm} (h : frst M m = none) : ∀ k, 2 ≤ k → k < m.n → tkn m M k = true := by
  intro k _ h2
  have := List.find?_eq_none.1 h k (List.mem_range.2 h2)
  simpa using this
theorem tkn_no {M : Pm} {m : Xm} {n : Nat} (h : tkn m M n = false) : 2 ≤ n ∧ M n = none ∧ m.Y n = none := by
  unfold tkn at h
  simp at h
  exact ⟨by omega, h.1.2, h.2⟩
theorem frst_some {M : Pm} {m : Xm} {n : Nat} (h : frst M m = some n) : 2 ≤ n ∧ n < m.n ∧ M n = none ∧ m.Y n = none ∧ ∀ j, j < n → tkn m M j = true := by
  have h1 := List.find?_some h
  have h2 := List.mem_range.1 (List.mem_of_find?_eq_some h)
  obtain ⟨a, b, c⟩ := tkn_no (m := m) (M := M) (n := n) (by simpa using h1)
  refine ⟨a, h2, b, c, fun j hj => ?_⟩
  obtain ⟨i, hi, e1, e2⟩ := List.find?_eq_some_iff_getElem.1 h |>.2
  simp at e1
  subst e1
  have := e2 j hj
  simpa using this
theorem frs_pt {m : Xm} {M : Pm} {n : Nat} {x : Nd} (k : Nat) : frs m (pt M n x) k = G.putM (frs m M) n ⟨kindOf x, (n : Nat), m.gen + 1, N.bs x.put⟩ k := by
  unfold frs G.putM pt
  by_cases e : k = n
  · subst e; simp
  · rw [if_neg e, if_neg e]
theorem tkn_pt {m : Xm} {M : Pm} {n : Nat} {x : Nd} (k : Nat) : tkn m (pt M n x) k = S.useAt (tkn m M) n k := by
  unfold tkn S.useAt pt
  by_cases e : k = n
  · subst e; simp
  · rw [if_neg e, if_neg e]
theorem tkn_drp {m : Xm} {M : Pm} {n : Nat} (h2 : 2 ≤ n) (hy : m.Y n = none) (k : Nat) : tkn m (drp M [n]) k = S.freeAt (tkn m M) n k := by
  unfold tkn S.freeAt drp
  by_cases e : k = n
  · subst e; simp [hy]; omega
  · rw [if_neg e, if_neg (by simpa using e)]
theorem frs_drp {m : Xm} {M : Pm} {n : Nat} (hy : m.Y n = none) (k : Nat) : frs m (drp M [n]) k = G.delM (frs m M) n k := by
  unfold frs G.delM drp
  by_cases e : k = n
  · subst e; simp [hy]
  · rw [if_neg e, if_neg (by simpa using e)]
theorem use_same {u v : Nat → Bool} {m n : Nat} (h : ∀ k, k < m → u k = v k) : ∀ k, k < m → S.useAt u n k = S.useAt v n k := fun k hk => by unfold S.useAt; split; rfl; exact h k hk
theorem free_same {u v : Nat → Bool} {m n : Nat} (h : ∀ k, k < m → u k = v k) : ∀ k, k < m → S.freeAt u n k = S.freeAt v n k := fun k hk => by unfold S.freeAt; split; rfl; exact h k hk

theorem Pv.add_some {B : Nat} {w : World} {p : Nat} {m : Xm} {n : Nat} {M : Pm} (h : Pv B w p m M) (hB : B ≤ w.heap.size) (hL : S.Lds w) (x : Nd) (hx : x.put.length ≤ 237) (hf : frst M m = some n) :
    Calls Tryz.prog 128 #[.pointer (some ⟨p, 0, none⟩), .int .i64 (kindOf x), .string (N.bs x.put)] w fun e w' => e = .returned (.tuple #[.int .i64 (n : Nat), .int .i64 0]) ∧ Pv B w' p m (pt M n x) ∧ G.On B w w' := by
  obtain ⟨h1, h2, h3, h4, h5⟩ := frst_some hf
  obtain ⟨q, hG, hm, hg, hfr, hu, hn, hk⟩ := h.out
  have hr : S.IsFirst q.ut q.m 2 (n : Nat) := .inl ⟨n, rfl, h1, by rw [hm]; exact h2, by rw [hu n h2]; unfold tkn; rw [h3, h4]; simp; omega, fun j a b => by rw [hu j (by omega)]; exact h5 j b⟩
  have hkd : 1 ≤ kindOf x ∧ kindOf x ≤ 4 := by unfold kindOf; split <;> omega
  refine (G.add_ok hG hB hL n hr (by rw [hm]; exact h2) (kindOf x) (N.bs x.put) (by have := h.fine.1; rw [hg.1]; omega) hkd.1 hkd.2 (by rw [N.bs_size]; exact hx)).mono ?_
  rintro e w' ⟨rfl, hG', o⟩
  refine ⟨rfl, ⟨⟨_, hG', hm, hg, fun k => ?_, fun k hkm => ?_, fun k hkm => ?_, hk⟩, fun k y hy => ?_, h.oth, h.fine, h.few, h.two⟩, o⟩
  · rw [frs_pt, ← hg.1, show frs m M = q.fresh from (funext hfr).symm]; rfl
  · rw [tkn_pt]; exact use_same hu k hkm
  · rw [tkn_pt]; exact use_same hn k hkm
  · unfold pt at hy
    by_cases e : k = n
    · subst e; rw [if_pos rfl] at hy; obtain rfl := Option.some.inj hy; exact ⟨h1, h2, hx, h4⟩
    · rw [if_neg e] at hy; exact h.rng k y hy
theorem Pv.add_none {B : Nat} {w : World} {p : Nat} {m : Xm} {M : Pm} (h : Pv B w p m M) (hL : S.Lds w) (kd : Int) (x : ByteArray) (hf : frst M m = none) :
    Calls Tryz.prog 128 #[.pointer (some ⟨p, 0, none⟩), .int .i64 kd, .string x] w fun e w' => e = .returned (.tuple #[.int .i64 0, .int .i64 80]) ∧ w' = w := by
  obtain ⟨q, hG, hm, hg, hfr, hu, hn, hk⟩ := h.out
  have hr : S.IsFirst q.ut q.m 2 (-1) := .inr ⟨rfl, fun j a b => by rw [hu j (by omega)]; exact frst_none hf j a (by omega)⟩
  exact G.add_full hG hL hr kd x

theorem Pv.drop {B : Nat} {w : World} {p : Nat} {m : Xm} {n : Nat} {M : Pm} (h : Pv B w p m M) (hB : B ≤ w.heap.size) {x : Nd} (hx : M n = some x) :
    Calls Tryz.prog 112 #[.pointer (some ⟨p, 0, none⟩), .int .i64 (n : Nat)] w fun e w' => e = .returned (.tuple #[]) ∧ Pv B w' p m (drp M [n]) ∧ G.On B w w' := by
  obtain ⟨q, hG, hm, hg, hf, hu, hn, hk⟩ := h.out
  obtain ⟨r1, r2, r3, r4⟩ := h.rng n x hx
  refine (G.drop_walk hG hB n r1 (by rw [hm]; exact r2)).mono ?_
  rintro e w' ⟨rfl, hG', o⟩
  have hs : (q.fresh n).isSome = true := by rw [hf]; unfold frs; rw [hx]; rfl
  have e1 : q.drop n = { q with un := S.freeAt q.un n, ut := S.freeAt q.ut n, fresh := G.delM q.fresh n } := by unfold G.Pq.drop; rw [if_pos hs]
  rw [e1] at hG'
  refine ⟨rfl, ⟨⟨_, hG', hm, hg, fun k => ?_, fun k hkm => ?_, fun k hkm => ?_, hk⟩, fun k y hy => ?_, h.oth, h.fine, h.few, h.two⟩, o⟩
  · rw [frs_drp r4, show frs m M = q.fresh from (funext hf).symm]
  · rw [tkn_drp r1 r4]; exact free_same hu k hkm
  · rw [tkn_drp r1 r4]; exact free_same hn k hkm
  · unfold drp at hy
    by_cases e : k = n
    · subst e; simp at hy
    · rw [if_neg (by simpa using e)] at hy; exact h.rng k y hy

end Go.Proofs.YtifeihnhkbagpaaGreatDoor.T