/- hold whole; what keys have by a cache; the walk of find. Conditions: those that each row names. -/
import Derived.Test.YtbpelhfbgjplbaaJM
namespace Go.Proofs.Ytbpelhfbgjplbaa.Ca
open Go.ChangeShapes Go.WideShapes Go.ChangeAt Go.RowKit
open N (Kept)
open Q (kept_cell Kv Vn Km m_get m_put m_del)
variable {E : Nat → Prop} {X : List En}

/-- When there are too many the first one goes. -/
def ev (m : Nat) (es : List En) : List En := if es.length = m then es.tail else es
def evf (m : Nat) (es : List En) (f : ByteArray → Option ByteArray) : ByteArray → Option ByteArray :=
  if es.length = m then (match es with | y :: _ => if y.d then wrt f y else f | [] => f) else f
theorem ev_mem {m : Nat} {es : List En} {y : En} (h : y ∈ ev m es) : y ∈ es := by
  unfold ev at h
  split at h
  · exact List.mem_of_mem_tail h
  · exact h
theorem ev_len {m : Nat} {es : List En} (h1 : 1 ≤ m) (h : es.length ≤ m) : (ev m es).length + 1 ≤ m := by
  unfold ev
  split
  · rw [List.length_tail]; omega
  · omega
theorem ev_keys (m : Nat) (es : List En) : (ev m es).map (·.k) = if (es.map (·.k)).length = m then (es.map (·.k)).tail else es.map (·.k) := by
  unfold ev
  rw [List.length_map]
  split
  · rw [List.map_tail]
  · rfl

theorem hold_walk {w : World} {B p n m : Nat} {q : Cc} {es : List En} {x : En} {f : ByteArray → Option ByteArray} (h : CM E (x :: X) w B p q es n f) (hX : ∀ y ∈ X, y.b ≠ x.b) (hm : q.m = (m : Nat)) (h1 : 1 ≤ m) (hle : es.length ≤ m) (hl : m ≤ 1000) (hn : n ≤ 100000) (hk : ∀ y ∈ es, y.k ≠ x.k) (hs : x.k.size ≤ 64) (hd : x.d = false) (hB : B ≤ x.b) :
    Calls Try.prog 28 #[.pointer (some ⟨p, 0, none⟩), .pointer (some ⟨x.b, 0, none⟩)] w fun r w' => r = .returned (.int .i64 0) ∧ (∃ z n2, n2 ≤ n + 1 ∧ ((∀ y ∈ es, y.d = false) → z = q.x) ∧ CM E X w' B p { q with x := z } (ev m es ++ [x]) n2 (evf m es f)) ∧ Vc E B w w' := by
  by_cases heq : es.length = m
  · obtain ⟨y, C, rfl⟩ : ∃ y C, es = y :: C := by
      cases es with
      | nil => simp at heq; omega
      | cons y C => exact ⟨y, C, rfl⟩
    have e1 : ev m (y :: C) = C := by unfold ev; rw [if_pos heq]; rfl
    have hkC : ∀ z ∈ C, z.k ≠ x.k := fun z hz => hk z (by simp [hz])
    have hlC : C.length ≤ 1000 := by simp at heq; omega
    rw [e1]
    cases hyd : y.d with
    | false =>
      have e2 : evf m (y :: C) f = f := by unfold evf; rw [if_pos heq]; simp [hyd]
      rw [e2]
      refine (hold_full (q' := q) (n' := n) (f' := f) h hX hm heq hlC hkC hs hd hB (fun W k => (drop_clean (h.kept k) hyd).mono ?_)).mono ?_
      · rintro r w' ⟨rfl, M, V⟩
        exact ⟨rfl, ⟨n, Nat.le_refl _, M⟩, V⟩
      · rintro r w' ⟨rfl, ⟨n2, hn2, M⟩, V⟩
        exact ⟨rfl, ⟨q.x, n2, by omega, fun _ => rfl, M⟩, V⟩
    | true =>
      have e2 : evf m (y :: C) f = wrt f y := by unfold evf; rw [if_pos heq]; simp [hyd]
      rw [e2]
      refine (hold_full (q' := { q with x := IntKind.i64.wrap (q.x + 1) }) (n' := n + 1) (f' := wrt f y) h hX hm heq hlC hkC hs hd hB (fun W k => (drop_dirty (h.kept k) hn hyd).mono ?_)).mono ?_
      · rintro r w' ⟨rfl, ⟨n2, hn2, M⟩, V⟩
        exact ⟨rfl, ⟨n2, hn2, M⟩, V⟩
      · rintro r w' ⟨rfl, ⟨n2, hn2, M⟩, V⟩
        exact ⟨rfl, ⟨_, n2, by omega, fun hc => (by have := hc y (by simp); rw [hyd] at this; cases this), M⟩, V⟩
  · have e1 : ev m es = es := by unfold ev; rw [if_neg heq]
    have e2 : evf m es f = f := by unfold evf; rw [if_neg heq]
    rw [e1, e2]
    refine (hold_room h hX hm (by omega) (by omega) hk hs hd hB).mono ?_
    rintro r w' ⟨rfl, M, V⟩
    exact ⟨rfl, ⟨q.x, n, by omega, fun _ => rfl, M⟩, V⟩

/-- What keys have by what is held, and by what lies below. -/
structure Iv (es : List En) (f F : ByteArray → Option ByteArray) : Prop where
  on : ∀ x ∈ es, F x.k = (if x.i then some x.t else none) ∧ (x.d = false → f x.k = F x.k) ∧ (x.i = false → x.t = ⟨#[]⟩)
  off : ∀ k, (∀ x ∈ es, x.k ≠ k) → f k = F k
theorem Iv.perm {es fs : List En} {f F : ByteArray → Option ByteArray} (h : Iv es f F) (p : es.Perm fs) : Iv fs f F :=
  ⟨fun x hx => h.on x (p.mem_iff.2 hx), fun k hk => h.off k fun x hx => hk x (p.mem_iff.1 hx)⟩
theorem wrt_at (f : ByteArray → Option ByteArray) (y : En) : wrt f y y.k = if y.i then some y.t else none := by
  unfold wrt
  cases y.i with
  | true => exact Q.put_eq _ _ _
  | false => exact Q.del_eq _ _
theorem wrt_ne (f : ByteArray → Option ByteArray) {y : En} {k : ByteArray} (h : k ≠ y.k) : wrt f y k = f k := by
  unfold wrt
  cases y.i with
  | true => exact Q.put_ne _ _ h
  | false => exact Q.del_ne _ h
theorem Iv.ev {m : Nat} {es : List En} {f F : ByteArray → Option ByteArray} (h : Iv es f F) (hn : Nk es) : Iv (ev m es) (evf m es f) F := by
  unfold Ca.ev evf
  by_cases heq : es.length = m
  · rw [if_pos heq, if_pos heq]
    cases es with
    | nil => exact h
    | cons y C =>
      have ht := Nk.tail hn
      have hy := h.on y (by simp)
      cases hyd : y.d with
      | true =>
        show Iv C (if y.d = true then wrt f y else f) F
        rw [if_pos hyd]
        refine ⟨fun x hx => ?_, fun k hk => ?_⟩
        · have := h.on x (by simp [hx])
          exact ⟨this.1, fun hd => by rw [wrt_ne f (ht.1 x hx)]; exact this.2.1 hd, this.2.2⟩
        · by_cases e : k = y.k
          · subst e; rw [wrt_at, hy.1]
          · rw [wrt_ne f e]
            exact h.off k fun x hx => by
              rcases List.mem_cons.1 hx with rfl | hx
              · exact fun e2 => e e2.symm
              · exact hk x hx
      | false =>
        show Iv C (if y.d = true then wrt f y else f) F
        rw [if_neg (by simp [hyd])]
        refine ⟨fun x hx => h.on x (by simp [hx]), fun k hk => ?_⟩
        by_cases e : k = y.k
        · subst e; exact hy.2.1 hyd
        · exact h.off k fun x hx => by
            rcases List.mem_cons.1 hx with rfl | hx
            · exact fun e2 => e e2.symm
            · exact hk x hx
  · rw [if_neg heq, if_neg heq]; exact h
/-- One more that says what a key has. -/
theorem Iv.add {es : List En} {f F : ByteArray → Option ByteArray} {x : En} (h : Iv es f F) (h1 : F x.k = (if x.i then some x.t else none)) (h2 : x.d = false → f x.k = F x.k) (h3 : x.i = false → x.t = ⟨#[]⟩) : Iv (es ++ [x]) f F :=
  ⟨fun y hy => by
    rcases List.mem_append.1 hy with hy | hy
    · exact h.on y hy
    · simp at hy; subst hy; exact ⟨h1, h2, h3⟩, fun k hk => h.off k fun y hy => hk y (by simp [hy])⟩

/-- The keys that are held behind one that was asked for. -/
def tk (m : Nat) (ks : List ByteArray) (k : ByteArray) : List ByteArray := if ks.any (fun y => decide (y = k)) then ks.filter (fun y => !decide (y = k)) ++ [k] else (if ks.length = m then ks.tail else ks) ++ [k]
theorem tk_held {A C : List En} {x : En} (hn : Nk (A ++ x :: C)) (m : Nat) : (A ++ C ++ [x]).map (·.k) = tk m ((A ++ x :: C).map (·.k)) x.k := by
  have hm : ((A ++ x :: C).map (·.k)).any (fun y => decide (y = x.k)) = true := List.any_eq_true.2 ⟨x.k, List.mem_map.2 ⟨x, by simp, rfl⟩, by simp⟩
  have hnk := (Nk.perm hn (perm_head A C x)).tail.1
  have e1 : ∀ l : List En, (∀ y ∈ l, y.k ≠ x.k) → (l.map (·.k)).filter (fun y => !decide (y = x.k)) = l.map (·.k) := fun l hl => List.filter_eq_self.2 fun y hy => by
    obtain ⟨z, hz, rfl⟩ := List.mem_map.1 hy
    simp [hl z hz]
  unfold tk
  rw [if_pos hm]
  simp only [List.map_append, List.map_cons, List.map_nil, List.filter_append]
  rw [List.filter_cons_of_neg (by simp), e1 A (fun y hy => hnk y (by simp [hy])), e1 C (fun y hy => hnk y (by simp [hy]))]
theorem tk_new {es : List En} {x : En} (hk : ∀ y ∈ es, y.k ≠ x.k) (m : Nat) : (ev m es ++ [x]).map (·.k) = tk m (es.map (·.k)) x.k := by
  have hm : ¬ (es.map (·.k)).any (fun y => decide (y = x.k)) = true := fun hm => by
    obtain ⟨k, hk2, e⟩ := List.any_eq_true.1 hm
    obtain ⟨y, hy, rfl⟩ := List.mem_map.1 hk2
    exact hk y hy (by simpa using e)
  unfold tk
  rw [if_neg hm, List.map_append, ev_keys]; rfl

/-- One just made, that is not held yet. -/
theorem CM.fresh {w : World} {B p n : Nat} {q : Cc} {es : List En} {f : ByteArray → Option ByteArray} (h : CM E [] w B p q es n f) (k t : ByteArray) (i : Bool) :
    CM E [⟨w.heap.size, k, t, i, false⟩] (w.alloc (.cells #[.string k, .string t, .bool i, .pointer none, .pointer none] 56)) B p q es n f := by
  have h1 := h.kept ((Kept.refl w).alloc (.cells #[.string k, .string t, .bool i, .pointer none, .pointer none] 56))
  obtain ⟨G, g0, _⟩ := h.hs.out
  obtain ⟨G1, g1, g2, g3⟩ := h1.hs.out
  obtain ⟨G, g1, g2, _⟩ := h.hs.out
  refine ⟨h1.cb, ⟨G, g1.kept ((Kept.refl w).alloc _), g2, ⟨fun x hx => ?_⟩⟩, h1.hm, h1.cm, h1.kv, h1.kn, h1.sz, h1.ne, h1.bd, h1.le, h1.base⟩
  simp at hx
  subst hx
  refine ⟨⟨_, _, heap_alloc_new w _⟩, ?_⟩
  cases hg : G w.heap.size with
  | none => rfl
  | some y =>
    have := (Array.getElem?_eq_some_iff.1 (g1.out _ _ hg)).1
    omega
end Go.Proofs.Ytbpelhfbgjplbaa.Ca
