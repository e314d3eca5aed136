/- Rings of blocks, in plain words; what is held, in memory. No condition but those that each row names. -/
import Derived.Test.YtbpelhfbgjplbaaJA
import Derived.Test.YtbpelhfbgjplbaaKF
namespace Go.Proofs.Ytbpelhfbgjplbaa.Ca
open Go.ChangeShapes Go.WideShapes Go.ChangeAt Go.RowKit
open N (Kept)

/-- Each leads to the next one, and back. -/
def Ch (N P : Nat → Nat) : List Nat → Prop
  | a :: b :: r => N a = b ∧ P b = a ∧ Ch N P (b :: r)
  | _ => True
theorem ch_split {N P : Nat → Nat} : ∀ (l : List Nat) (x : Nat) (r : List Nat), Ch N P (l ++ x :: r) ↔ Ch N P (l ++ [x]) ∧ Ch N P (x :: r)
  | [], x, r => by simp [Ch]
  | [a], x, r => by simp [Ch, and_assoc]
  | a :: b :: l, x, r => by
    have ih := ch_split (N := N) (P := P) (b :: l) x r
    simp only [List.cons_append, Ch] at ih ⊢
    rw [ih]
    simp only [and_assoc]
theorem ch_congr {N P N' P' : Nat → Nat} : ∀ (l : List Nat), Ch N P l → (∀ x ∈ l.dropLast, N' x = N x) → (∀ y ∈ l.tail, P' y = P y) → Ch N' P' l
  | [], _, _, _ => trivial
  | [a], _, _, _ => trivial
  | a :: b :: l, h, h1, h2 => by
    refine ⟨(h1 a (by simp)).trans h.1, (h2 b (by simp)).trans h.2.1, ch_congr (b :: l) h.2.2 (fun x hx => h1 x ?_) (fun y hy => h2 y ?_)⟩
    · simp only [List.dropLast_cons_cons]; exact List.mem_cons_of_mem _ hx
    · exact List.mem_of_mem_tail hy
theorem snoc_of (e : Nat) (A : List Nat) : ∃ A' a, e :: A = A' ++ [a] := ⟨(e :: A).dropLast, (e :: A).getLast (by simp), (List.dropLast_concat_getLast (by simp)).symm⟩
theorem cons_of (B : List Nat) (e : Nat) : ∃ c B', B ++ [e] = c :: B' := by
  cases B with
  | nil => exact ⟨e, [], rfl⟩
  | cons b r => exact ⟨b, r ++ [e], rfl⟩

/-- A ring: an end, and those on it from the oldest to the newest. -/
structure Ring (N P : Nat → Nat) (e : Nat) (L : List Nat) : Prop where
  ch : Ch N P (e :: (L ++ [e]))
  nd : (e :: L).Nodup

theorem Ring.first {N P : Nat → Nat} {e x : Nat} {L : List Nat} (h : Ring N P e (x :: L)) : N e = x := h.ch.1
theorem Ring.both {N P : Nat → Nat} {e b : Nat} {A B : List Nat} (h : Ring N P e (A ++ b :: B)) : ∃ a c, P b = a ∧ N b = c ∧ a ∈ e :: A ∧ c ∈ B ++ [e] ∧ (∀ x ∈ A ++ B, x ≠ b) ∧ e ≠ b := by
  have h1 := h.ch
  have hd := h.nd
  rw [List.append_assoc, List.cons_append, ← List.cons_append] at h1
  rw [ch_split (e :: A) b (B ++ [e])] at h1
  obtain ⟨A', a, ea⟩ := snoc_of e A
  obtain ⟨c, B', ec⟩ := cons_of B e
  rw [ea, ec, List.append_assoc, List.cons_append, List.nil_append, ch_split A' a [b]] at h1
  refine ⟨a, c, h1.1.2.2.1, h1.2.1, ?_, ?_, ?_, ?_⟩
  · rw [ea]; simp
  · rw [ec]; simp
  · intro x hx e2
    subst e2
    rw [← List.cons_append, List.nodup_append] at hd
    rcases List.mem_append.1 hx with hx | hx
    · exact hd.2.2 x (by simp [hx]) x (by simp) rfl
    · exact (List.nodup_cons.1 hd.2.1).1 hx
  · intro e2
    subst e2
    exact (List.nodup_cons.1 hd).1 (by simp)

/-- One leaves. -/
theorem Ring.leave {N P N' P' : Nat → Nat} {e b : Nat} {A B : List Nat} (h : Ring N P e (A ++ b :: B)) (hN : ∀ x, N' x = if x = P b then N b else N x) (hP : ∀ x, P' x = if x = N b then P b else P x) : Ring N' P' e (A ++ B) := by
  have h1 := h.ch
  have hd := h.nd
  have hd2 : (e :: (A ++ B)).Nodup := hd.sublist (List.Sublist.cons_cons e (List.Sublist.append (List.Sublist.refl A) (List.sublist_cons_self b B)))
  refine ⟨?_, hd2⟩
  rw [List.append_assoc, List.cons_append, ← List.cons_append] at h1
  rw [ch_split (e :: A) b (B ++ [e])] at h1
  obtain ⟨A', a, ea⟩ := snoc_of e A
  obtain ⟨c, B', ec⟩ := cons_of B e
  have dA : (A' ++ [a]).Nodup := by rw [← ea]; exact hd2.sublist (List.Sublist.cons_cons e (List.sublist_append_left A B))
  have tA : (A' ++ [a]).tail = A := by rw [← ea]; rfl
  have dB : (c :: B').Nodup := by
    rw [← ec, List.nodup_append]
    refine ⟨hd2.sublist ((List.sublist_append_right A B).trans (List.sublist_cons_self _ _)), by simp, fun x hx y hy exy => ?_⟩
    simp at hy
    subst hy
    subst exy
    exact (List.nodup_cons.1 hd2).1 (by simp [hx])
  have lB : (c :: B').dropLast = B := by rw [← ec]; simp
  rw [ea, ec, List.append_assoc, List.cons_append, List.nil_append, ch_split A' a [b]] at h1
  obtain ⟨⟨g1, g2, g3, _⟩, g4, g5, g6⟩ := h1
  rw [← List.cons_append] at hd2
  rw [List.append_assoc, ← List.cons_append, ea, ec, List.append_assoc, List.cons_append, List.nil_append, ch_split A' a (c :: B')]
  have disj : ∀ x ∈ e :: A, ∀ y ∈ B, x ≠ y := fun x hx y hy => by
    have := hd2
    rw [List.nodup_append] at this
    exact this.2.2 x hx y hy
  have hca : ∀ y ∈ A, y ≠ c := by
    intro y hy e2
    have hc : c ∈ B ++ [e] := by rw [ec]; simp
    rcases List.mem_append.1 hc with hc | hc
    · exact disj y (by simp [hy]) c hc e2
    · simp at hc
      have := (List.nodup_cons.1 hd2).1
      exact this (by rw [← hc, ← e2]; simp [hy])
  have haa : a ∈ e :: A := by rw [ea]; simp
  refine ⟨ch_congr _ g1 (fun x hx => ?_) (fun y hy => ?_), ?_, ?_, ch_congr _ g6 (fun x hx => ?_) (fun y hy => ?_)⟩
  · rw [hN, if_neg]
    rw [g3]
    rw [List.dropLast_concat] at hx
    rw [List.nodup_append] at dA
    exact dA.2.2 x hx a (by simp)
  · rw [hP, if_neg]
    rw [g4]
    rw [tA] at hy
    exact hca y hy
  · rw [hN, if_pos g3.symm, g4]
  · rw [hP, if_pos g4.symm, g3]
  · rw [hN, if_neg]
    rw [g3]
    rw [lB] at hx
    exact fun e2 => disj a haa x hx e2.symm
  · rw [hP, if_neg]
    rw [g4]
    exact fun e2 => (List.nodup_cons.1 dB).1 (by rw [← e2]; exact hy)

/-- One enters, as the newest. -/
theorem Ring.enter {N P N' P' : Nat → Nat} {e b : Nat} {L : List Nat} (h : Ring N P e L) (hb : b ∉ e :: L) (hN : ∀ x, N' x = if x = P e then b else if x = b then e else N x) (hP : ∀ x, P' x = if x = e then b else if x = b then P e else P x) : Ring N' P' e (L ++ [b]) := by
  have h1 := h.ch
  have hd := h.nd
  obtain ⟨A', a, ea⟩ := snoc_of e L
  have dA : (A' ++ [a]).Nodup := by rw [← ea]; exact hd
  have tA : (A' ++ [a]).tail = L := by rw [← ea]; rfl
  rw [← List.cons_append, ea, List.append_assoc, List.cons_append, List.nil_append, ch_split A' a [e]] at h1
  obtain ⟨g1, g2, g3, _⟩ := h1
  have hbA : ∀ x ∈ A' ++ [a], x ≠ b := fun x hx e2 => hb (by rw [ea, ← e2]; exact hx)
  have hbe : b ≠ e := fun e2 => hb (by simp [e2])
  refine ⟨?_, ?_⟩
  · rw [← List.cons_append, ← List.cons_append, ea, List.append_assoc, List.append_assoc]
    show Ch N' P' (A' ++ a :: b :: [e])
    rw [ch_split A' a (b :: [e])]
    refine ⟨ch_congr _ g1 (fun x hx => ?_) (fun y hy => ?_), ?_, ?_, ?_, ?_, trivial⟩
    · rw [List.dropLast_concat] at hx
      have hxa : x ≠ a := by
        rw [List.nodup_append] at dA
        exact dA.2.2 x hx a (by simp)
      rw [hN, g3, if_neg hxa, if_neg (hbA x (by simp [hx]))]
    · rw [tA] at hy
      have hye : y ≠ e := fun e2 => (List.nodup_cons.1 hd).1 (by rw [← e2]; exact hy)
      rw [hP, if_neg hye, if_neg (fun e2 => hb (by rw [← e2]; simp [hy]))]
    · rw [hN, g3, if_pos rfl]
    · rw [hP, if_neg hbe, if_pos rfl, g3]
    · rw [hN, g3, if_neg (fun e2 => hbA a (by simp) e2.symm), if_pos rfl]
    · rw [hP, if_pos rfl]
  · rw [← List.cons_append, List.nodup_append]
    exact ⟨hd, by simp, fun x hx y hy e2 => by simp at hy; subst hy; subst e2; exact hb hx⟩
end Go.Proofs.Ytbpelhfbgjplbaa.Ca
