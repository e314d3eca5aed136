/- The law on acts: what each call of it does to the pager and to its two lists, in memory. Conditions: as for the plain words. -/
import Derived.Test.YthlhnjjofefgcaaGreatDoorGPlayC
import Derived.Test.YthlhnjjofefgcaaGreatDoorGPlayL
namespace Go.Proofs.YthlhnjjofefgcaaGreatDoor.G
open Go.ChangeShapes Go.WideShapes Go.ChangeAt Go.RowKit
open D (Dk Ok DiskAt Sec Wr Ct whole)
open P (bs supL Sup supP Small)

/-- The pager, with what is under way and what is committed. -/
structure Gs (B : Nat) (W : World) (d g p m i : Nat) (now kept : List Pge) : Prop where
  out : ∃ a q M, a.d = d ∧ a.g = g ∧ GA B W p a q ∧ Iv m i q M now kept
theorem Gs.kept {B : Nat} {W W' : World} {d g p m i : Nat} {now kept : List Pge} (h : Gs B W d g p m i now kept) (k : D.Kept W W') : Gs B W' d g p m i now kept := by
  obtain ⟨a, q, M, e1, e2, hG, v⟩ := h.out; exact ⟨a, q, M, e1, e2, hG.kept k, v⟩
theorem Gs.mono {B : Nat} {W : World} {d g p m i j : Nat} {now kept : List Pge} (h : Gs B W d g p m i now kept) (k : i ≤ j) : Gs B W d g p m j now kept := by
  obtain ⟨a, q, M, e1, e2, hG, v⟩ := h.out; exact ⟨a, q, M, e1, e2, hG, v.mono k⟩
theorem Gs.few {B : Nat} {W : World} {d g p m i : Nat} {now kept : List Pge} (h : Gs B W d g p m i now kept) : now.length ≤ 15 ∧ kept.length ≤ 15 ∧ 2 ≤ m ∧ m ≤ 17 := by
  obtain ⟨a, q, M, e1, e2, hG, v⟩ := h.out
  have h1 := cnt_list m v.m2 now v.nowF v.nowD
  have h2 := cnt_list m v.m2 kept v.keptF v.keptD
  have := v.m17
  exact ⟨by omega, by omega, v.m2, v.m17⟩
theorem gs_add {B : Nat} {W : World} {d g p m i : Nat} {now kept : List Pge} (h : Gs B W d g p m i now kept) (hB : B ≤ W.heap.size) (hL : S.Lds W) (hi : i < 40000) (n : Nat) (h2 : 2 ≤ n) (hn : n < m) (hu : hasN now n = false ∧ hasN kept n = false) (hb : ∀ j, 2 ≤ j → j < n → (hasN now j || hasN kept j) = true)
    (kd : Int) (s : ByteArray) (h1 : 1 ≤ kd) (h4 : kd ≤ 4) (hs : s.size ≤ 40) : Calls Tryz.prog 10 #[.pointer (some ⟨p, 0, none⟩), .int .i64 kd, .string s] W fun e w' => e = .returned (.tuple #[.int .i64 (n : Nat), .int .i64 0]) ∧ Gs B w' d g p m i (now ++ [⟨n, kd, s⟩]) kept ∧ On B W w' := by
  obtain ⟨a, q, M, e1, e2, hG, v⟩ := h.out
  have hr := first_iv v n h2 hn hu hb
  have hg := v.genb
  refine (add_ok ⟨a, e1, e2, hG⟩ hB hL n hr (by rw [v.qm]; exact hn) kd s (by omega) h1 h4 (by omega)).mono ?_
  rintro e w' ⟨rfl, hG', o⟩
  obtain ⟨a', f1, f2, k'⟩ := hG'.out
  exact ⟨rfl, ⟨a', _, M, f1, f2, k', (add_iv v n hr kd s h1 h4 hs).2⟩, o⟩
theorem gs_full {B : Nat} {W : World} {d g p m i : Nat} {now kept : List Pge} (h : Gs B W d g p m i now kept) (hL : S.Lds W) (hb : ∀ j, 2 ≤ j → j < m → (hasN now j || hasN kept j) = true)
    (kd : Int) (s : ByteArray) : Calls Tryz.prog 10 #[.pointer (some ⟨p, 0, none⟩), .int .i64 kd, .string s] W fun e w' => e = .returned (.tuple #[.int .i64 0, .int .i64 80]) ∧ w' = W := by
  obtain ⟨a, q, M, e1, e2, hG, v⟩ := h.out
  exact add_full ⟨a, e1, e2, hG⟩ hL (full_iv v hb) kd s
theorem gs_drop {B : Nat} {W : World} {d g p m i : Nat} {now kept : List Pge} (h : Gs B W d g p m i now kept) (hB : B ≤ W.heap.size) {x : Pge} (hx : x ∈ now) : Calls Tryz.prog 11 #[.pointer (some ⟨p, 0, none⟩), .int .i64 (x.n : Nat)] W fun e w' => e = .returned (.tuple #[]) ∧ Gs B w' d g p m i (without now x.n) kept ∧ On B W w' := by
  obtain ⟨a, q, M, e1, e2, hG, v⟩ := h.out
  obtain ⟨f1, f2, _⟩ := v.nowF x hx
  refine (drop_walk ⟨a, e1, e2, hG⟩ hB x.n f1 (by rw [v.qm]; exact f2)).mono ?_
  rintro e w' ⟨rfl, hG', o⟩
  obtain ⟨a', f1, f2, k'⟩ := hG'.out
  exact ⟨rfl, ⟨a', _, M, f1, f2, k', drop_iv v hx⟩, o⟩
theorem gs_commit {B : Nat} {W : World} {d g p m i : Nat} {now kept : List Pge} (h : Gs B W d g p m i now kept) (hB : B ≤ W.heap.size) (hi : i < 40000) : Calls Tryz.prog 13 #[.pointer (some ⟨p, 0, none⟩), .int .i64 (-1)] W fun e w' => e = .returned (.int .i64 0) ∧ Gs B w' d g p m (i + 70) now now ∧ On B W w' := by
  obtain ⟨a, q, M, e1, e2, hG, v⟩ := h.out
  obtain ⟨hgen, hs, d', e, M', v'⟩ := commit_iv v (by omega)
  have hg := v.genb
  refine (commit_ok hG hB v.ok (by omega) v.doubt hgen (by omega) (-1) hs d' false e rfl).mono ?_
  rintro e w' ⟨rfl, hG', o⟩
  obtain ⟨a', f1, f2, k'⟩ := hG'.out
  exact ⟨rfl, ⟨a', _, M', f1.trans e1, f2.trans e2, k', v'⟩, o⟩
theorem gs_undo {B : Nat} {W : World} {d g p m i : Nat} {now kept : List Pge} (h : Gs B W d g p m i now kept) (hB : B ≤ W.heap.size) : Calls Tryz.prog 14 #[.pointer (some ⟨p, 0, none⟩)] W fun e w' => e = .returned (.tuple #[]) ∧ Gs B w' d g p m i kept kept ∧ On B W w' := by
  obtain ⟨a, q, M, e1, e2, hG, v⟩ := h.out
  refine (undo_walk ⟨a, e1, e2, hG⟩ hB).mono ?_
  rintro e w' ⟨rfl, hG', o⟩
  obtain ⟨a', f1, f2, k'⟩ := hG'.out
  exact ⟨rfl, ⟨a', _, M, f1, f2, k', undo_iv v⟩, o⟩
theorem gs_left {B : Nat} {W : World} {d g p m i : Nat} {now kept : List Pge} (h : Gs B W d g p m i now kept) : Calls Tryz.prog 18 #[.pointer (some ⟨p, 0, none⟩)] W fun e w' => e = .returned (.int .i64 ((m : Int) - 2 - (now.length : Int) - ((gone now kept).length : Int))) ∧ w' = W := by
  obtain ⟨a, q, M, e1, e2, hG, v⟩ := h.out
  have := left_walk (⟨a, e1, e2, hG⟩ : GAt B W p d g q)
  have hc := left_iv v
  rw [show ((S.cnt q.m q.ut : Nat) : Int) = (m : Int) - 2 - (now.length : Int) - ((gone now kept).length : Int) by omega] at this
  exact this
theorem gs_reads {B : Nat} {W : World} {d g p m i : Nat} {now kept : List Pge} (h : Gs B W d g p m i now kept) (hB : B ≤ W.heap.size) (hi : i < 39000) {gn cn : Nat} (hl : PL B W gn cn now) : Calls Tryz.prog 17 #[.pointer (some ⟨p, 0, none⟩), .slice (some ⟨gn, 0, none⟩) now.length cn] W fun e w' => e = .returned (.bool true) ∧ Gs B w' d g p m (i + 30) now kept ∧ On B W w' := by
  have few := h.few
  obtain ⟨a, q, M, e1, e2, hG, v⟩ := h.out
  refine (reads_walk hG hB v (by omega) hl (by omega)).mono ?_
  rintro e w' ⟨rfl, hR⟩
  obtain ⟨q', hG', v', o⟩ := hR.out
  exact ⟨rfl, ⟨a, q', M, e1, e2, hG', v'.mono (by omega)⟩, o⟩

/-- It is opened anew: so many pages are told. -/
structure Go_ (B : Nat) (W : World) (d g p m i : Nat) (kept : List Pge) (j : Nat) : Prop where
  out : ∃ a q M, a.d = d ∧ a.g = g ∧ GA B W p a q ∧ Iv m i q M (kept.take j) (kept.take j) ∧ (∀ x ∈ kept, Fit m x) ∧ kept.Pairwise (fun x y => x.n ≠ y.n) ∧ ∀ x ∈ kept, ∃ g, M x.n = some ⟨x.kind, (x.n : Nat), g, x.s⟩
theorem gs_open {B : Nat} {W : World} {d g p m i : Nat} {now kept : List Pge} (h : Gs B W d g p m i now kept) (hB : B ≤ W.heap.size) (hi : i < 40000) : Calls Tryz.prog 15 #[.pointer (some ⟨d, 0, none⟩)] W fun e w' => ∃ p', e = .returned (.tuple #[.pointer (some ⟨p', 0, none⟩), .int .i64 0]) ∧ Go_ B w' d g p' m (i + 2) kept 0 ∧ On B W w' := by
  obtain ⟨a, q, M, e1, e2, hG, v⟩ := h.out
  subst e1 e2
  have hg := v.genb
  have m2 := v.m2
  have m17 := v.m17
  obtain ⟨s0, s1, o0, o1, t0, t1, k0, k1, hp⟩ := st_open v.st (sup_of v.gen1 (by omega))
  refine (open_flu hG.disk hB v.ok (by omega) v.flu (v.liv 2) (by rw [v.len]; exact m2) (by rw [v.len]; omega) t0 t1 k0 k1 _ hp).mono ?_
  rintro e w' ⟨p', rfl, hG', o⟩
  obtain ⟨a', f1, f2, k'⟩ := hG'.out
  exact ⟨p', rfl, ⟨a', _, M, f1, f2, k', open_iv v, v.keptF, v.keptD, v.says⟩, o⟩
theorem go_mark {B : Nat} {W : World} {d g p m i j : Nat} {kept : List Pge} (h : Go_ B W d g p m i kept j) {x : Pge} (hx : kept[j]? = some x) : Calls Tryz.prog 16 #[.pointer (some ⟨p, 0, none⟩), .int .i64 (x.n : Nat)] W fun e w' => e = .returned (.bool true) ∧ Go_ B w' d g p m i kept (j + 1) ∧ On B W w' ∧
    Calls Tryz.prog 16 #[.pointer (some ⟨p, 0, none⟩), .int .i64 (x.n : Nat)] w' fun e w'' => e = .returned (.bool false) ∧ w'' = w' := by
  obtain ⟨a, q, M, e1, e2, hG, v, hF, hD, hS⟩ := h.out
  have hm := List.mem_of_getElem? hx
  have hn : hasN (kept.take j) x.n = false := by
    cases hh : hasN (kept.take j) x.n with
    | false => rfl
    | true =>
      obtain ⟨y, hy, e⟩ := has_iff.1 hh
      have hp := hD
      rw [← List.take_append_drop j kept, List.pairwise_append] at hp
      have hxd : x ∈ kept.drop j := List.mem_of_getElem? (i := 0) (by rw [List.getElem?_drop]; simpa using hx)
      exact absurd e (hp.2.2 y hy x hxd)
  obtain ⟨u1, u2, v', u3⟩ := mark_iv v x (hF x hm) hn (hS x hm)
  have hxm : x.n < q.m := by rw [v.qm]; exact (hF x hm).2.1
  have f := mark_yes (⟨a, e1, e2, hG⟩ : GAt B W p d g q) x.n hxm u1
  rw [u2] at f
  refine f.mono ?_
  rintro e w' ⟨rfl, hG', o⟩
  obtain ⟨a', f1, f2, k'⟩ := hG'.out
  refine ⟨rfl, ⟨a', _, M, f1, f2, k', by rw [take_next hx]; exact v', hF, hD, hS⟩, o, ?_⟩
  exact mark_no ⟨a', f1, f2, k'⟩ x.n hxm u3
theorem go_all {B : Nat} {W : World} {d g p m i : Nat} {kept : List Pge} (h : Go_ B W d g p m i kept kept.length) : Gs B W d g p m i kept kept := by
  obtain ⟨a, q, M, e1, e2, hG, v, hF, hD, hS⟩ := h.out
  rw [List.take_length] at v
  exact ⟨a, q, M, e1, e2, hG, v⟩

end Go.Proofs.YthlhnjjofefgcaaGreatDoor.G
