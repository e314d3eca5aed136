/- Numbers that wait, in plain words: keys and texts as a function, what a queue has under its name, and what each call does to it. No condition but those that each row names. -/
import Derived.Test.YtabbfoaojmhajaaQK
namespace Go.Proofs.Ytabbfoaojmhajaa.Q
open N (bs numL keyL Small)

/-- A key has this text from now on; a key has none. -/
def put (f : ByteArray → Option ByteArray) (k t : ByteArray) : ByteArray → Option ByteArray := fun x => if x = k then some t else f x
def del (f : ByteArray → Option ByteArray) (k : ByteArray) : ByteArray → Option ByteArray := fun x => if x = k then none else f x
theorem put_eq (f : ByteArray → Option ByteArray) (k t : ByteArray) : put f k t k = some t := if_pos rfl
theorem put_ne (f : ByteArray → Option ByteArray) {k x : ByteArray} (t : ByteArray) (h : x ≠ k) : put f k t x = f x := if_neg h
theorem del_eq (f : ByteArray → Option ByteArray) (k : ByteArray) : del f k k = none := if_pos rfl
theorem del_ne (f : ByteArray → Option ByteArray) {k x : ByteArray} (h : x ≠ k) : del f k x = f x := if_neg h

/-- What stands for the first one of those behind: 0, or it and 1. -/
def hd1 : List Nat → Nat
  | [] => 0
  | b :: _ => b + 1
/-- What is behind a number in a line. -/
def nxt : List Nat → Nat → Option Nat
  | [], _ => none
  | a :: r, n => if a = n then some (hd1 r) else nxt r n

theorem nxt_head (a : Nat) (r : List Nat) : nxt (a :: r) a = some (hd1 r) := by rw [nxt, if_pos rfl]
theorem nxt_tail {a n : Nat} (r : List Nat) (h : a ≠ n) : nxt (a :: r) n = nxt r n := by rw [nxt, if_neg h]
theorem nxt_none : ∀ {l : List Nat} {n : Nat}, n ∉ l → nxt l n = none
  | [], _, _ => rfl
  | a :: r, n, h => by
    rw [nxt_tail r (fun e => h (by simp [e])), nxt_none (fun e => h (by simp [e]))]
theorem nxt_some : ∀ {l : List Nat} {n : Nat}, n ∈ l → ∃ b, nxt l n = some b
  | [], _, h => by cases h
  | a :: r, n, h => by
    by_cases e : a = n
    · subst e; exact ⟨_, nxt_head a r⟩
    · rw [nxt_tail r e]
      rcases List.mem_cons.1 h with h | h
      · exact absurd h.symm e
      · exact nxt_some h
theorem nxt_lt : ∀ {l : List Nat} {n b : Nat}, (∀ x ∈ l, x < 4611686018427387904) → nxt l n = some b → b ≤ 4611686018427387904
  | [], _, _, _, h => by cases h
  | a :: r, n, b, hs, h => by
    by_cases e : a = n
    · subst e
      rw [nxt_head] at h
      injection h with h
      subst h
      cases r with
      | nil => exact Nat.zero_le _
      | cons c r => have := hs c (by simp); show c + 1 ≤ _; omega
    · rw [nxt_tail r e] at h
      exact nxt_lt (fun x hx => hs x (by simp [hx])) h
/-- The last one. -/
def lst : List Nat → Nat
  | [] => 0
  | [a] => a
  | _ :: b :: r => lst (b :: r)
theorem lst_mem : ∀ {l : List Nat}, l ≠ [] → lst l ∈ l
  | [], h => absurd rfl h
  | [a], _ => by simp [lst]
  | a :: b :: r, _ => by
    rw [lst]
    exact List.mem_cons_of_mem _ (lst_mem (l := b :: r) (by simp))
theorem lst_snoc : ∀ (l : List Nat) (n : Nat), lst (l ++ [n]) = n
  | [], n => rfl
  | [a], n => rfl
  | a :: b :: r, n => by
    show lst (b :: (r ++ [n])) = n
    exact lst_snoc (b :: r) n
theorem lst_tail (a : Nat) {r : List Nat} (h : r ≠ []) : lst (a :: r) = lst r := by
  cases r with
  | nil => exact absurd rfl h
  | cons b r => rfl
theorem nxt_zero : ∀ {l : List Nat} {n b : Nat}, l.Nodup → nxt l n = some b → (b = 0 ↔ n = lst l)
  | [], _, _, _, h => by cases h
  | [a], n, b, _, h => by
    by_cases e : a = n
    · subst e; rw [nxt_head] at h; injection h with h; subst h; simp [hd1, lst]
    · rw [nxt_tail [] e] at h; cases h
  | a :: c :: r, n, b, hd, h => by
    obtain ⟨h1, h2⟩ := List.nodup_cons.1 hd
    by_cases e : a = n
    · subst e
      rw [nxt_head] at h
      injection h with h
      subst h
      constructor
      · intro h; simp [hd1] at h
      · intro h
        exact absurd (by rw [h, lst]; exact lst_mem (by simp)) h1
    · rw [nxt_tail _ e] at h
      show b = 0 ↔ n = lst (c :: r)
      exact nxt_zero h2 h
theorem nxt_snoc : ∀ {l : List Nat} {n m : Nat}, l.Nodup → m ∉ l → l ≠ [] → nxt (l ++ [m]) n = if n = m then some 0 else if n = lst l then some (m + 1) else nxt l n
  | [], _, _, _, _, h => absurd rfl h
  | [a], n, m, _, hm, _ => by
    have ham : a ≠ m := fun e => hm (by simp [e])
    show nxt [a, m] n = _
    by_cases e1 : n = m
    · subst e1
      rw [if_pos rfl, nxt_tail _ ham, nxt_head]; rfl
    · rw [if_neg e1]
      by_cases e2 : n = a
      · subst e2
        rw [nxt_head, show lst [n] = n from rfl, if_pos rfl]; rfl
      · rw [show lst [a] = a from rfl, if_neg e2, nxt_tail _ (fun e => e2 e.symm), nxt_tail _ (fun e => e1 e.symm), nxt_tail _ (fun e => e2 e.symm)]
  | a :: c :: r, n, m, hd, hm, _ => by
    obtain ⟨h1, h2⟩ := List.nodup_cons.1 hd
    have ham : a ≠ m := fun e => hm (by simp [e])
    have hl : lst (a :: c :: r) = lst (c :: r) := rfl
    have hla : a ≠ lst (c :: r) := fun e => h1 (by rw [e]; exact lst_mem (by simp))
    rw [hl]
    show nxt (a :: (c :: r ++ [m])) n = _
    by_cases e : a = n
    · subst e
      rw [nxt_head, if_neg ham, if_neg hla, nxt_head]; rfl
    · rw [nxt_tail _ e, nxt_snoc h2 (fun e => hm (by simp [e])) (by simp), nxt_tail _ e]

/-- The line's bytes. -/
def fst0 : List Nat → Nat
  | [] => 0
  | a :: _ => a
def lineL (l : List Nat) : List Nat := numL l.length ++ (numL (fst0 l) ++ numL (lst l))

theorem bs_inj {a b : List Nat} (ha : Small a) (hb : Small b) (h : bs a = bs b) : a = b :=
  N.map_inj ha hb (by have := congrArg ByteArray.toList h; rwa [N.bs_toList, N.bs_toList] at this)
theorem key_inj {nm : List Nat} (hn : Small nm) {a b : Nat} (ha : a < 18446744073709551616) (hb : b < 18446744073709551616) (h : bs (nm ++ keyL a) = bs (nm ++ keyL b)) : a = b :=
  N.keyL_inj (List.append_cancel_left (bs_inj (hn.append (N.keyL_small a ha)) (hn.append (N.keyL_small b hb)) h))
theorem key_ne (nm : List Nat) (a : Nat) : bs (nm ++ keyL a) ≠ bs nm := by
  intro h
  have := congrArg ByteArray.size h
  rw [N.bs_size, N.bs_size, List.length_append, N.keyL_length] at this
  omega

/-- Keys that begin with a name. -/
def Ow (nm : List Nat) (k : ByteArray) : Prop := k = bs nm ∨ ∃ n, n < 18446744073709551616 ∧ k = bs (nm ++ keyL n)
/-- What a queue has. -/
structure Qf (nm l : List Nat) (f : ByteArray → Option ByteArray) : Prop where
  line : f (bs nm) = if l = [] then none else some (bs (lineL l))
  item : ∀ n, n < 18446744073709551616 → f (bs (nm ++ keyL n)) = (nxt l n).map fun b => bs (numL b)
  nd : l.Nodup
  small : ∀ n ∈ l, n < 4611686018427387904
  nms : Small nm

/-- One more. -/
def pushF (nm l : List Nat) (n : Nat) (f : ByteArray → Option ByteArray) : ByteArray → Option ByteArray :=
  put (if l = [] then put f (bs (nm ++ keyL n)) (bs (numL 0)) else put (put f (bs (nm ++ keyL n)) (bs (numL 0))) (bs (nm ++ keyL (lst l))) (bs (numL (n + 1)))) (bs nm) (bs (lineL (l ++ [n])))
/-- One less. -/
def popF (nm : List Nat) (a : Nat) (r : List Nat) (f : ByteArray → Option ByteArray) : ByteArray → Option ByteArray :=
  if r = [] then del (del f (bs (nm ++ keyL a))) (bs nm) else put (del f (bs (nm ++ keyL a))) (bs nm) (bs (lineL r))

theorem Qf.lstlt {nm l : List Nat} {f : ByteArray → Option ByteArray} (h : Qf nm l f) : lst l < 4611686018427387904 := by
  by_cases e : l = []
  · subst e; decide
  · exact h.small _ (lst_mem e)
theorem Qf.push {nm l : List Nat} {f : ByteArray → Option ByteArray} (h : Qf nm l f) {n : Nat} (hn : n < 4611686018427387904) (hm : n ∉ l) : Qf nm (l ++ [n]) (pushF nm l n f) := by
  refine ⟨?_, fun m hm2 => ?_, ?_, ?_, h.nms⟩
  · rw [if_neg (by simp)]; exact put_eq _ _ _
  · unfold pushF
    rw [put_ne _ _ (key_ne nm m)]
    by_cases hl : l = []
    · subst hl
      rw [if_pos rfl]
      by_cases e : m = n
      · subst e
        rw [put_eq]
        show _ = (nxt [m] m).map _
        rw [nxt_head]; rfl
      · rw [put_ne _ _ (fun e2 => e (key_inj h.nms hm2 (by omega) e2)), h.item m hm2]
        show _ = (nxt [n] m).map _
        rw [nxt_tail _ (fun e2 => e e2.symm)]
    · have hll := h.lstlt
      rw [if_neg hl, nxt_snoc h.nd hm hl]
      by_cases e : m = n
      · subst e
        have hne : m ≠ lst l := fun e => hm (by rw [e]; exact lst_mem hl)
        rw [if_pos rfl, put_ne _ _ (fun e2 => hne (key_inj h.nms hm2 (by omega) e2)), put_eq]; rfl
      · rw [if_neg e]
        by_cases e3 : m = lst l
        · subst e3
          rw [if_pos rfl, put_eq]; rfl
        · rw [if_neg e3, put_ne _ _ (fun e2 => e3 (key_inj h.nms hm2 (by omega) e2)), put_ne _ _ (fun e2 => e (key_inj h.nms hm2 (by omega) e2)), h.item m hm2]
  · rw [List.nodup_append]
    exact ⟨h.nd, by simp, fun a ha b hb e => by simp at hb; subst hb; subst e; exact hm ha⟩
  · intro x hx
    rcases List.mem_append.1 hx with hx | hx
    · exact h.small x hx
    · simp at hx; omega
theorem push_frame {nm l : List Nat} {n : Nat} (hn : n < 4611686018427387904) (hl : lst l < 4611686018427387904) (f : ByteArray → Option ByteArray) {k : ByteArray} (hk : ¬ Ow nm k) : pushF nm l n f k = f k := by
  have h1 : k ≠ bs nm := fun e => hk (.inl e)
  have h2 : ∀ m, m < 18446744073709551616 → k ≠ bs (nm ++ keyL m) := fun m hm e => hk (.inr ⟨m, hm, e⟩)
  unfold pushF
  rw [put_ne _ _ h1]
  split
  · rw [put_ne _ _ (h2 n (by omega))]
  · rw [put_ne _ _ (h2 _ (by omega)), put_ne _ _ (h2 n (by omega))]
theorem Qf.pop {nm r : List Nat} {a : Nat} {f : ByteArray → Option ByteArray} (h : Qf nm (a :: r) f) : Qf nm r (popF nm a r f) := by
  have ha := h.small a (by simp)
  obtain ⟨h1, h2⟩ := List.nodup_cons.1 h.nd
  have key : ∀ m, m < 18446744073709551616 → del f (bs (nm ++ keyL a)) (bs (nm ++ keyL m)) = (nxt r m).map fun b => bs (numL b) := by
    intro m hm
    by_cases e : m = a
    · subst e; rw [del_eq, nxt_none h1]; rfl
    · rw [del_ne _ (fun e2 => e (key_inj h.nms hm (by omega) e2)), h.item m hm, nxt_tail _ (fun e2 => e e2.symm)]
  refine ⟨?_, fun m hm => ?_, h2, fun x hx => h.small x (by simp [hx]), h.nms⟩
  · unfold popF
    by_cases hr : r = []
    · rw [if_pos hr, if_pos hr, del_eq]
    · rw [if_neg hr, if_neg hr, put_eq]
  · unfold popF
    by_cases hr : r = []
    · rw [if_pos hr, del_ne _ (key_ne nm m), key m hm]
    · rw [if_neg hr, put_ne _ _ (key_ne nm m), key m hm]
theorem pop_frame {nm r : List Nat} {a : Nat} (ha : a < 4611686018427387904) (f : ByteArray → Option ByteArray) {k : ByteArray} (hk : ¬ Ow nm k) : popF nm a r f k = f k := by
  have h1 : k ≠ bs nm := fun e => hk (.inl e)
  have h2 : k ≠ bs (nm ++ keyL a) := fun e => hk (.inr ⟨a, by omega, e⟩)
  unfold popF
  split
  · rw [del_ne _ h1, del_ne _ h2]
  · rw [put_ne _ _ h1, del_ne _ h2]

theorem Qf.nil {nm : List Nat} (hs : Small nm) : Qf nm [] (fun _ => Option.none) := ⟨by rw [if_pos rfl], fun _ _ => rfl, List.nodup_nil, (fun x h => by cases h), hs⟩
theorem Qf.frame {nm l : List Nat} {f g : ByteArray → Option ByteArray} (h : Qf nm l f) (hg : ∀ k, Ow nm k → g k = f k) : Qf nm l g :=
  ⟨(hg _ (.inl rfl)).trans h.line, fun n hn => (hg _ (.inr ⟨n, hn, rfl⟩)).trans (h.item n hn), h.nd, h.small, h.nms⟩
theorem Qf.empty {nm : List Nat} {f : ByteArray → Option ByteArray} (h : Qf nm [] f) {k : ByteArray} (hk : Ow nm k) : f k = Option.none := by
  rcases hk with rfl | ⟨n, hn, rfl⟩
  · rw [h.line, if_pos rfl]
  · rw [h.item n hn]; rfl
theorem Qf.full {nm l : List Nat} {f : ByteArray → Option ByteArray} (h : Qf nm l f) (hl : l ≠ []) : f (bs nm) ≠ Option.none := by
  rw [h.line, if_neg hl]; intro e; cases e
theorem ow_one {a b : Nat} (ha : a < 256) (hb : b < 256) (hab : a ≠ b) {k : ByteArray} (h1 : Ow [a] k) (h2 : Ow [b] k) : False := by
  have sa : Small [a] := fun x hx => by simp at hx; omega
  have sb : Small [b] := fun x hx => by simp at hx; omega
  have : ∀ (x y : List Nat), Small x → Small y → bs (a :: x) = bs (b :: y) → False := fun x y hx hy e => by
    have := bs_inj (sa.append hx) (sb.append hy) e
    simp only [List.cons_append, List.cons.injEq] at this
    exact hab this.1
  have s0 : Small [] := fun x hx => by cases hx
  rcases h1 with h1 | ⟨n, hn, h1⟩ <;> rcases h2 with h2 | ⟨m, hm, h2⟩
  · exact this [] [] s0 s0 (h1.symm.trans h2)
  · exact this [] (keyL m) s0 (N.keyL_small m hm) (h1.symm.trans h2)
  · exact this (keyL n) [] (N.keyL_small n hn) s0 (h1.symm.trans h2)
  · exact this (keyL n) (keyL m) (N.keyL_small n hn) (N.keyL_small m hm) (h1.symm.trans h2)
end Go.Proofs.Ytabbfoaojmhajaa.Q
