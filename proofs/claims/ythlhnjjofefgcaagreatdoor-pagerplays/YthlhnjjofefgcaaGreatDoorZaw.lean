/- Joined: GPlayL GPlayD GPlayE. What is proved of the functions beneath PagerNone,PagerBlank,PagerCuts,PagerPlays. Conditions: those that each row names. -/
import Derived.Test.YthlhnjjofefgcaaGreatDoorZav
import Derived.Deep.RegionLawGrows
namespace Go.Proofs.YthlhnjjofefgcaaGreatDoor.G
open Go.ChangeShapes Go.WideShapes Go.ChangeAt Go.RowKit

structure Ls (B : Nat) (W : World) (gn cn gk ck : Nat) (now kept : List Pge) : Prop where
  now_ : PL B W gn cn now
  kept_ : PL B W gk ck kept
  alias : gn = gk → kept.length ≤ now.length
theorem Ls.kept {B : Nat} {W W' : World} {gn cn gk ck : Nat} {now kept : List Pge} (h : Ls B W gn cn gk ck now kept) (k : D.Kept W W') : Ls B W' gn cn gk ck now kept := ⟨h.now_.kept k, h.kept_.kept k, h.alias⟩
theorem Ls.on {B B' : Nat} {W W' : World} {gn cn gk ck : Nat} {now kept : List Pge} (h : Ls B W gn cn gk ck now kept) (k : On B' W W') : Ls B W' gn cn gk ck now kept := ⟨h.now_.on k, h.kept_.on k, h.alias⟩

theorem ls_append {B : Nat} {W : World} {gn cn gk ck : Nat} {now kept : List Pge} (h : Ls B W gn cn gk ck now kept) (hB : B ≤ W.heap.size) (hl : now.length ≤ 100) (ty : TypeId) (n : Nat) (kd : Int) (s : ByteArray) :
    ∃ g' c' w', (Builtin.append_ #[29, 29] ty #[.slice (some ⟨gn, 0, none⟩) now.length cn, .slice (some ⟨W.heap.size, 0, none⟩) 1 1]).run Tryz.prog (W.alloc (.cells #[.int .i64 (n : Nat), .int .i64 kd, .string s] 36)) = .ok (.slice (some ⟨g', 0, none⟩) (now.length + 1) c') w' ∧
      Ls B w' g' c' gk ck (now ++ [⟨n, kd, s⟩]) kept ∧ (∀ p a q, GA B W p a q → GA B w' p a q) ∧ Below B W w' := by
  obtain ⟨i0, hi, hz0, hz1, hz2⟩ := info_parts info36
  have qn := three_cells W (.int .i64 (n : Nat)) (.int .i64 kd) (.string s) W.heap.size rfl
  have K : D.Kept W (W.alloc (.cells #[.int .i64 (n : Nat), .int .i64 kd, .string s] 36)) := (D.Kept.refl W).alloc _
  have hN := h.now_.kept K
  have hK := h.kept_.kept K
  generalize W.alloc (.cells #[.int .i64 (n : Nat), .int .i64 kd, .string s] 36) = V at qn K hN hK ⊢
  obtain ⟨cur, e1, e2, e3, e4, e5, e6⟩ := hN.blk
  have efl : flat (now ++ [⟨n, kd, s⟩]) = flat now ++ [.int .i64 (n : Nat), .int .i64 kd, .string s] := flat_append _ _
  have hfl := flat_len now
  by_cases hroom : now.length + 1 ≤ cn
  · have hr := run_append_room (P := Tryz.prog) V 29 ty 36 i0 Tryz.underlying29 hi gn now.length cn cur e1 ⟨W.heap.size, 0, none⟩ 1 1 [.int .i64 (n : Nat), .int .i64 kd, .string s] (by rw [hz1]; rfl) qn (one_cells _ _ _) hroom (by rw [hz1, e5]; simp; omega)
    rw [hz1] at hr
    obtain ⟨row, hrow⟩ : ∃ row : Array Value, row = (cur.toList.take (now.length * 3) ++ [Value.int .i64 (n : Nat), .int .i64 kd, .string s] ++ cur.toList.drop (now.length * 3 + [Value.int .i64 (n : Nat), .int .i64 kd, .string s].length)).toArray := ⟨_, rfl⟩
    rw [← hrow] at hr
    have hh : (V.setRow gn row).heap[gn]? = some (.cells row 36) := setRow_heap V gn cur row 36 _ e1
    have ho : ∀ k, k ≠ gn → (V.setRow gn row).heap[k]? = V.heap[k]? := fun k hk => setRow_other V gn k row hk
    have hsz : row.size = cn * 3 := by
      rw [hrow]
      simp only [List.size_toArray, List.length_append, List.length_take, List.length_drop, Array.length_toList, e5, List.length_cons, List.length_nil]
      omega
    have htk : row.toList.take ((now.length + 1) * 3) = flat now ++ [.int .i64 (n : Nat), .int .i64 kd, .string s] := by
      rw [hrow, e6]
      have : (now.length + 1) * 3 = (flat now ++ [Value.int .i64 (n : Nat), .int .i64 kd, .string s]).length := by simp [hfl]; omega
      rw [this]
      exact List.take_left
    refine ⟨gn, cn, _, hr, ⟨.mk' hh e2 (by simpa using hroom) e4 hsz (by rw [efl, ← htk]; simp), ?_, fun e => ?_⟩, fun p a q hG => ?_, ?_⟩
    · by_cases hg : gk = gn
      · subst hg
        obtain ⟨cur', k1, k2, k3, k4, k5, k6⟩ := hK.blk
        rw [e1] at k1
        injection k1 with k1
        injection k1 with k1
        subst k1
        have hck : ck = cn := by omega
        have hle := h.alias rfl
        refine .mk' hh k2 k3 k4 (by rw [hsz, hck]) ?_
        rw [← k6]
        have e : row.toList.take (now.length * 3) = cur.toList.take (now.length * 3) := by
          have : row.toList.take (now.length * 3) = (row.toList.take ((now.length + 1) * 3)).take (now.length * 3) := by rw [List.take_take, Nat.min_eq_left (by omega)]
          rw [this, htk, e6, ← hfl]
          exact List.take_left
        have e' : row.toList.take (kept.length * 3) = (row.toList.take (now.length * 3)).take (kept.length * 3) := by rw [List.take_take, Nat.min_eq_left (by omega)]
        rw [e', e, List.take_take, Nat.min_eq_left (by omega)]
      · exact hK.same (ho gk hg)
    · rw [List.length_append]; have := h.alias e; omega
    · exact (hG.kept K).far e1 far36 ho
    · refine (K.out.mono hB).trans ⟨rfl, rfl, rfl, by simp [World.setRow], fun k hk => ho k (by omega)⟩
  · obtain ⟨v', w', hrun, r1, r2⟩ := run_append_arg_grows (P := Tryz.prog) V 29 ty 36 i0 (.agg #[.int .i64 0, .int .i64 0, .string ⟨#[]⟩]) 3 32 Tryz.underlying29 hi hz0 hz1 hz2 rfl (by decide) ⟨gn, 0, none⟩ now.length cn (flat now) hfl (hN.row.cells (g := gn) rfl) ⟨W.heap.size, 0, none⟩ 1 1 [.int .i64 (n : Nat), .int .i64 kd, .string s] rfl qn (by omega) (by unfold maxLen; omega) (by omega)
    obtain ⟨g', c', rfl, hb, hlt⟩ := r1.form (by omega)
    have KV : D.Kept V w' := ⟨(Below.refl _ V).grown r2 (Nat.le_refl _) (fun _ e => by cases e)⟩
    have hgk := hK.lt
    refine ⟨g', c', w', hrun, ⟨?_, hK.kept KV, fun e => by omega⟩, fun p a q hG => (hG.kept K).kept KV, (K.trans KV).out.mono hB⟩
    have p1 : PL V.heap.size w' g' c' (now ++ [⟨n, kd, s⟩]) := ⟨by rw [efl, List.length_append]; exact r1⟩
    exact p1.mono (Nat.le_trans hB K.size)
end Go.Proofs.YthlhnjjofefgcaaGreatDoor.G

namespace Go.Proofs.YthlhnjjofefgcaaGreatDoor.G
open Go.ChangeShapes Go.WideShapes Go.ChangeAt Go.RowKit
open D (Dk Ok DiskAt Sec Wr Ct whole)
open P (bs supL Sup supP Small)

structure Gs (B : Nat) (W : World) (d g p m i : Nat) (now kept : List Pge) : Prop where
  out : ∃ a q M, a.d = d ∧ a.g = g ∧ GA B W p a q ∧ Iv m i q M now kept
theorem Gs.kept {B : Nat} {W W' : World} {d g p m i : Nat} {now kept : List Pge} (h : Gs B W d g p m i now kept) (k : D.Kept W W') : Gs B W' d g p m i now kept := by
  obtain ⟨a, q, M, e1, e2, hG, v⟩ := h.out; exact ⟨a, q, M, e1, e2, hG.kept k, v⟩
theorem Gs.mono {B : Nat} {W : World} {d g p m i j : Nat} {now kept : List Pge} (h : Gs B W d g p m i now kept) (k : i ≤ j) : Gs B W d g p m j now kept := by
  obtain ⟨a, q, M, e1, e2, hG, v⟩ := h.out; exact ⟨a, q, M, e1, e2, hG, v.mono k⟩
theorem Gs.few {B : Nat} {W : World} {d g p m i : Nat} {now kept : List Pge} (h : Gs B W d g p m i now kept) : now.length ≤ 15 ∧ kept.length ≤ 15 ∧ 2 ≤ m ∧ m ≤ 17 := by
  obtain ⟨a, q, M, e1, e2, hG, v⟩ := h.out
  have h1 := cnt_list m v.m2 now v.nowF v.nowD
  have h2 := cnt_list m v.m2 kept v.keptF v.keptD
  have := v.m17
  exact ⟨by omega, by omega, v.m2, v.m17⟩
theorem gs_add {B : Nat} {W : World} {d g p m i : Nat} {now kept : List Pge} (h : Gs B W d g p m i now kept) (hB : B ≤ W.heap.size) (hL : S.Lds W) (hi : i < 40000) (n : Nat) (h2 : 2 ≤ n) (hn : n < m) (hu : hasN now n = false ∧ hasN kept n = false) (hb : ∀ j, 2 ≤ j → j < n → (hasN now j || hasN kept j) = true)
    (kd : Int) (s : ByteArray) (h1 : 1 ≤ kd) (h4 : kd ≤ 4) (hs : s.size ≤ 40) : Calls Tryz.prog 10 #[.pointer (some ⟨p, 0, none⟩), .int .i64 kd, .string s] W fun e w' => e = .returned (.tuple #[.int .i64 (n : Nat), .int .i64 0]) ∧ Gs B w' d g p m i (now ++ [⟨n, kd, s⟩]) kept ∧ On B W w' := by
  obtain ⟨a, q, M, e1, e2, hG, v⟩ := h.out
  have hr := first_iv v n h2 hn hu hb
  have hg := v.genb
  refine (add_ok ⟨a, e1, e2, hG⟩ hB hL n hr (by rw [v.qm]; exact hn) kd s (by omega) h1 h4 (by omega)).mono ?_
  rintro e w' ⟨rfl, hG', o⟩
  obtain ⟨a', f1, f2, k'⟩ := hG'.out
  exact ⟨rfl, ⟨a', _, M, f1, f2, k', (add_iv v n hr kd s h1 h4 hs).2⟩, o⟩
theorem gs_full {B : Nat} {W : World} {d g p m i : Nat} {now kept : List Pge} (h : Gs B W d g p m i now kept) (hL : S.Lds W) (hb : ∀ j, 2 ≤ j → j < m → (hasN now j || hasN kept j) = true)
    (kd : Int) (s : ByteArray) : Calls Tryz.prog 10 #[.pointer (some ⟨p, 0, none⟩), .int .i64 kd, .string s] W fun e w' => e = .returned (.tuple #[.int .i64 0, .int .i64 80]) ∧ w' = W := by
  obtain ⟨a, q, M, e1, e2, hG, v⟩ := h.out
  exact add_full ⟨a, e1, e2, hG⟩ hL (full_iv v hb) kd s
theorem gs_drop {B : Nat} {W : World} {d g p m i : Nat} {now kept : List Pge} (h : Gs B W d g p m i now kept) (hB : B ≤ W.heap.size) {x : Pge} (hx : x ∈ now) : Calls Tryz.prog 11 #[.pointer (some ⟨p, 0, none⟩), .int .i64 (x.n : Nat)] W fun e w' => e = .returned (.tuple #[]) ∧ Gs B w' d g p m i (without now x.n) kept ∧ On B W w' := by
  obtain ⟨a, q, M, e1, e2, hG, v⟩ := h.out
  obtain ⟨f1, f2, _⟩ := v.nowF x hx
  refine (drop_walk ⟨a, e1, e2, hG⟩ hB x.n f1 (by rw [v.qm]; exact f2)).mono ?_
  rintro e w' ⟨rfl, hG', o⟩
  obtain ⟨a', f1, f2, k'⟩ := hG'.out
  exact ⟨rfl, ⟨a', _, M, f1, f2, k', drop_iv v hx⟩, o⟩
theorem gs_commit {B : Nat} {W : World} {d g p m i : Nat} {now kept : List Pge} (h : Gs B W d g p m i now kept) (hB : B ≤ W.heap.size) (hi : i < 40000) : Calls Tryz.prog 13 #[.pointer (some ⟨p, 0, none⟩), .int .i64 (-1)] W fun e w' => e = .returned (.int .i64 0) ∧ Gs B w' d g p m (i + 70) now now ∧ On B W w' := by
  obtain ⟨a, q, M, e1, e2, hG, v⟩ := h.out
  obtain ⟨hgen, hs, d', e, M', v'⟩ := commit_iv v (by omega)
  have hg := v.genb
  refine (commit_ok hG hB v.ok (by omega) v.doubt hgen (by omega) (-1) hs d' false e rfl).mono ?_
  rintro e w' ⟨rfl, hG', o⟩
  obtain ⟨a', f1, f2, k'⟩ := hG'.out
  exact ⟨rfl, ⟨a', _, M', f1.trans e1, f2.trans e2, k', v'⟩, o⟩
theorem gs_undo {B : Nat} {W : World} {d g p m i : Nat} {now kept : List Pge} (h : Gs B W d g p m i now kept) (hB : B ≤ W.heap.size) : Calls Tryz.prog 14 #[.pointer (some ⟨p, 0, none⟩)] W fun e w' => e = .returned (.tuple #[]) ∧ Gs B w' d g p m i kept kept ∧ On B W w' := by
  obtain ⟨a, q, M, e1, e2, hG, v⟩ := h.out
  refine (undo_walk ⟨a, e1, e2, hG⟩ hB).mono ?_
  rintro e w' ⟨rfl, hG', o⟩
  obtain ⟨a', f1, f2, k'⟩ := hG'.out
  exact ⟨rfl, ⟨a', _, M, f1, f2, k', undo_iv v⟩, o⟩
theorem gs_left {B : Nat} {W : World} {d g p m i : Nat} {now kept : List Pge} (h : Gs B W d g p m i now kept) : Calls Tryz.prog 18 #[.pointer (some ⟨p, 0, none⟩)] W fun e w' => e = .returned (.int .i64 ((m : Int) - 2 - (now.length : Int) - ((gone now kept).length : Int))) ∧ w' = W := by
  obtain ⟨a, q, M, e1, e2, hG, v⟩ := h.out
  have := left_walk (⟨a, e1, e2, hG⟩ : GAt B W p d g q)
  have hc := left_iv v
  rw [show ((S.cnt q.m q.ut : Nat) : Int) = (m : Int) - 2 - (now.length : Int) - ((gone now kept).length : Int) by omega] at this
  exact this
theorem gs_reads {B : Nat} {W : World} {d g p m i : Nat} {now kept : List Pge} (h : Gs B W d g p m i now kept) (hB : B ≤ W.heap.size) (hi : i < 39000) {gn cn : Nat} (hl : PL B W gn cn now) : Calls Tryz.prog 17 #[.pointer (some ⟨p, 0, none⟩), .slice (some ⟨gn, 0, none⟩) now.length cn] W fun e w' => e = .returned (.bool true) ∧ Gs B w' d g p m (i + 30) now kept ∧ On B W w' := by
  have few := h.few
  obtain ⟨a, q, M, e1, e2, hG, v⟩ := h.out
  refine (reads_walk hG hB v (by omega) hl (by omega)).mono ?_
  rintro e w' ⟨rfl, hR⟩
  obtain ⟨q', hG', v', o⟩ := hR.out
  exact ⟨rfl, ⟨a, q', M, e1, e2, hG', v'.mono (by omega)⟩, o⟩

structure Go_ (B : Nat) (W : World) (d g p m i : Nat) (kept : List Pge) (j : Nat) : Prop where
  out : ∃ a q M, a.d = d ∧ a.g = g ∧ GA B W p a q ∧ Iv m i q M (kept.take j) (kept.take j) ∧ (∀ x ∈ kept, Fit m x) ∧ kept.Pairwise (fun x y => x.n ≠ y.n) ∧ ∀ x ∈ kept, ∃ g, M x.n = some ⟨x.kind, (x.n : Nat), g, x.s⟩
theorem gs_open {B : Nat} {W : World} {d g p m i : Nat} {now kept : List Pge} (h : Gs B W d g p m i now kept) (hB : B ≤ W.heap.size) (hi : i < 40000) : Calls Tryz.prog 15 #[.pointer (some ⟨d, 0, none⟩)] W fun e w' => ∃ p', e = .returned (.tuple #[.pointer (some ⟨p', 0, none⟩), .int .i64 0]) ∧ Go_ B w' d g p' m (i + 2) kept 0 ∧ On B W w' := by
  obtain ⟨a, q, M, e1, e2, hG, v⟩ := h.out
  subst e1 e2
  have hg := v.genb
  have m2 := v.m2
  have m17 := v.m17
  obtain ⟨s0, s1, o0, o1, t0, t1, k0, k1, hp⟩ := st_open v.st (sup_of v.gen1 (by omega))
  refine (open_flu hG.disk hB v.ok (by omega) v.flu (v.liv 2) (by rw [v.len]; exact m2) (by rw [v.len]; omega) t0 t1 k0 k1 _ hp).mono ?_
  rintro e w' ⟨p', rfl, hG', o⟩
  obtain ⟨a', f1, f2, k'⟩ := hG'.out
  exact ⟨p', rfl, ⟨a', _, M, f1, f2, k', open_iv v, v.keptF, v.keptD, v.says⟩, o⟩
theorem go_mark {B : Nat} {W : World} {d g p m i j : Nat} {kept : List Pge} (h : Go_ B W d g p m i kept j) {x : Pge} (hx : kept[j]? = some x) : Calls Tryz.prog 16 #[.pointer (some ⟨p, 0, none⟩), .int .i64 (x.n : Nat)] W fun e w' => e = .returned (.bool true) ∧ Go_ B w' d g p m i kept (j + 1) ∧ On B W w' ∧
    Calls Tryz.prog 16 #[.pointer (some ⟨p, 0, none⟩), .int .i64 (x.n : Nat)] w' fun e w'' => e = .returned (.bool false) ∧ w'' = w' := by
  obtain ⟨a, q, M, e1, e2, hG, v, hF, hD, hS⟩ := h.out
  have hm := List.mem_of_getElem? hx
  have hn : hasN (kept.take j) x.n = false := by
    cases hh : hasN (kept.take j) x.n with
    | false => rfl
    | true =>
      obtain ⟨y, hy, e⟩ := has_iff.1 hh
      have hp := hD
      rw [← List.take_append_drop j kept, List.pairwise_append] at hp
      have hxd : x ∈ kept.drop j := List.mem_of_getElem? (i := 0) (by rw [List.getElem?_drop]; simpa using hx)
      exact absurd e (hp.2.2 y hy x hxd)
  obtain ⟨u1, u2, v', u3⟩ := mark_iv v x (hF x hm) hn (hS x hm)
  have hxm : x.n < q.m := by rw [v.qm]; exact (hF x hm).2.1
  have f := mark_yes (⟨a, e1, e2, hG⟩ : GAt B W p d g q) x.n hxm u1
  rw [u2] at f
  refine f.mono ?_
  rintro e w' ⟨rfl, hG', o⟩
  obtain ⟨a', f1, f2, k'⟩ := hG'.out
  refine ⟨rfl, ⟨a', _, M, f1, f2, k', by rw [take_next hx]; exact v', hF, hD, hS⟩, o, ?_⟩
  exact mark_no ⟨a', f1, f2, k'⟩ x.n hxm u3
theorem go_all {B : Nat} {W : World} {d g p m i : Nat} {kept : List Pge} (h : Go_ B W d g p m i kept kept.length) : Gs B W d g p m i kept kept := by
  obtain ⟨a, q, M, e1, e2, hG, v, hF, hD, hS⟩ := h.out
  rw [List.take_length] at v
  exact ⟨a, q, M, e1, e2, hG, v⟩

end Go.Proofs.YthlhnjjofefgcaaGreatDoor.G

namespace Go.Proofs.YthlhnjjofefgcaaGreatDoor.G
open Go.ChangeShapes Go.WideShapes Go.ChangeAt Go.RowKit
open D (Dk Ok DiskAt Sec Wr Ct CutsAt whole)
open P (bs supL Sup supP Small)

structure Acts (W : World) (p : Option Addr) (n : Nat) where
  bl : Nat
  off : Nat
  what : Nat → Int
  kind : Nat → Int
  str : Nat → ByteArray
  long : n ≤ 9223372036854775807
  ptr : 0 < n → p = some ⟨bl, off, none⟩
  c0 : ∀ j, j < n → W.cell? ⟨bl, off + j * 3, none⟩ = some (.int .i64 (what j))
  c1 : ∀ j, j < n → W.cell? ⟨bl, off + j * 3 + 1, none⟩ = some (.int .i64 (kind j))
  c2 : ∀ j, j < n → W.cell? ⟨bl, off + j * 3 + 2, none⟩ = some (.string (str j))

theorem iv_new {m : Nat} {d : Dk} (h2 : 2 ≤ m) (h17 : m ≤ 17) (h : Bg m [] d) : Iv m 7 (opened d (1, -1)) (fun _ => none) [] [] := by
  have st : St d 1 := ⟨h.s1, ⟨⟨whole ⟨#[]⟩, false, 0⟩, none, h.s0, sd_zeros 0, Nat.zero_lt_one⟩⟩
  refine ⟨h2, h17, h.len, h.len, h.flu, h.cuts, h.fails, rfl, rfl, h.ok, Nat.le_refl 1, (by decide : 1 ≤ 7), st, (by intro _ h; cases h), (by intro _ h; cases h), List.Pairwise.nil, List.Pairwise.nil, ?_, ?_, ?_, (by intro _ h; cases h), (by intro _ h; cases h), (by intro k hk; cases hk), (by intro k p hp; cases hp), (by intro _ h; cases h), (by intro k p hp; cases hp)⟩
  all_goals (intro k _; show ahead k = _; rw [ahead_is]; simp [hasN])

structure Al (B : Nat) (w : World) (d g p m i gn cn gk ck : Nat) (now kept : List Pge) (W : World) : Prop where
  gs : Gs B W d g p m i now kept
  ls : Ls B W gn cn gk ck now kept
  bel : Below w.heap.size w W
  wB : w.heap.size ≤ B
  hB : B ≤ W.heap.size

theorem Al.kept {B : Nat} {w W W' : World} {d g p m i gn cn gk ck : Nat} {now kept : List Pge} (h : Al B w d g p m i gn cn gk ck now kept W) (k : D.Kept W W') : Al B w d g p m i gn cn gk ck now kept W' := ⟨h.gs.kept k, h.ls.kept k, h.bel.trans (k.out.mono h.bel.size), h.wB, Nat.le_trans h.hB k.size⟩
theorem Al.mono {B : Nat} {w W : World} {d g p m i j gn cn gk ck : Nat} {now kept : List Pge} (h : Al B w d g p m i gn cn gk ck now kept W) (k : i ≤ j) : Al B w d g p m j gn cn gk ck now kept W := ⟨h.gs.mono k, h.ls, h.bel, h.wB, h.hB⟩
theorem Al.step {B : Nat} {w W W' : World} {d g p p' m i i' gn cn gk ck : Nat} {now kept now' kept' : List Pge} (h : Al B w d g p m i gn cn gk ck now kept W) (o : On B W W') (gs : Gs B W' d g p' m i' now' kept') {gn' cn' gk' ck' : Nat} (ls : Ls B W' gn' cn' gk' ck' now' kept') : Al B w d g p' m i' gn' cn' gk' ck' now' kept' W' := ⟨gs, ls, h.bel.trans (o.below.mono h.wB), h.wB, Nat.le_trans h.hB o.size⟩
theorem Ls.both {B : Nat} {W : World} {gn cn gk ck : Nat} {now kept : List Pge} (h : Ls B W gn cn gk ck now kept) : Ls B W gk ck gk ck kept kept := ⟨h.kept_, h.kept_, fun _ => Nat.le_refl _⟩
theorem Ls.both' {B : Nat} {W : World} {gn cn gk ck : Nat} {now kept : List Pge} (h : Ls B W gn cn gk ck now kept) : Ls B W gn cn gn cn now now := ⟨h.now_, h.now_, fun _ => Nat.le_refl _⟩

theorem cell_low {w W : World} (h : Below w.heap.size w W) {a : Addr} {v : Value} (hc : w.cell? a = some v) : W.cell? a = some v := by
  rcases Nat.lt_or_ge a.block w.heap.size with hl | hl
  · rw [h.cell hl]; exact hc
  · simp [World.cell?, Array.getElem?_eq_none hl] at hc
theorem gone_next {now kept : List Pge} {j : Nat} {x : Pge} (h : kept[j]? = some x) : (gone now (kept.take (j + 1))).length = (gone now (kept.take j)).length + (if hasN now x.n then 0 else 1) := by
  rw [take_next h]; unfold gone
  rw [List.filter_append, List.length_append]
  cases hh : hasN now x.n <;> simp [List.filter, hh]

set_option maxRecDepth 100000 in
set_option maxHeartbeats 8000000 in
theorem plays_walk (s : Int) (pa : Option Addr) (n0 c0 : Nat) (w : World) (hL : S.Lds w) (A : Acts w pa n0) : Calls Tryz.prog 3 #[.int .i64 s, .slice pa n0 c0] w fun e w' => e = .returned (.bool true) ∧ D.Kept w w' := by
  obtain ⟨k0, hk0, ek0⟩ := D.low 4 15 (by omega) (by decide) s
  have ek0' : bits .and .i64 s 15 = (k0 : Int) := ek0
  have hk16 : k0 < 16 := hk0
  clear ek0 hk0
  obtain ⟨bl, off, what, kind, str, long, ptr, gc0, gc1, gc2⟩ := A
  have f7 : Calls Tryz.prog 7 #[.int .i64 ((k0 : Int) + 2), .slice none 0 0] w _ := begun_walk (k0 + 2) (by omega) (by omega) (⟨none, 0, rfl, Nat.le_refl _, Nat.zero_le _, fun j hj => by cases hj⟩ : CutsAt 0 w (.slice none 0 0) []) (Nat.zero_le _) (Nat.zero_le _) (by intro _ h; cases h) ⟨rfl, by intro _ _ h; cases h⟩
  go_enter Tryz.func3, Tryz.ntmps3
  go_wp2_with (first
    | (go_at_call 7; (with_reducible refine f7.mono ?_); rintro e w1 ⟨d, g, p, dk, rfl, hbg, hG1, K1⟩; have f8 := awake_walk w1 (lds_kept hL K1); clear f7)
    | (go_at_call 8; (with_reducible refine f8.mono ?_); rintro e w2 ⟨rfl, K2⟩; clear f8))
  have KK : D.Kept w2 ((w2.alloc (.cells #[] 36)).alloc (.cells #[] 36)) := ((D.Kept.refl w2).alloc _).alloc _
  have HA : Hid (Al w.heap.size w d g p (k0 + 2) (7 + 300 * 0) w2.heap.size 0 (w2.heap.size + 1) 0 [] [] ((w2.alloc (.cells #[] 36)).alloc (.cells #[] 36))) := by
    obtain ⟨a, e1, e2, hG⟩ := hG1.out
    have b2 := (K1.trans K2).trans KK
    refine ⟨⟨a, _, _, e1, e2, (hG.kept K2).kept KK, iv_new (by omega) (by omega) hbg⟩, ⟨.mk' (cur := #[]) ?_ (K1.trans K2).size (Nat.zero_le _) (Nat.zero_le _) rfl rfl, .mk' (cur := #[]) ?_ (Nat.le_succ_of_le (K1.trans K2).size) (Nat.zero_le _) (Nat.zero_le _) rfl rfl, fun _ => Nat.le_refl _⟩, b2.out, Nat.le_refl _, b2.size⟩
    · exact ((D.Kept.refl _).alloc _).block (heap_alloc_new w2 _)
    · have := heap_alloc_new (w2.alloc (.cells #[] 36)) (.cells #[] 36)
      rw [show (w2.alloc (.cells #[] 36)).heap.size = w2.heap.size + 1 by show (w2.heap.push _).size = _; rw [Array.size_push]] at this
      exact this
  clear KK hG1 hbg K1 K2
  have hn0 : (n0 : Int) ≤ 9223372036854775807 := by omega
  go_loopw [7, 8, 9, 10, 11] (fun v7 _ v9 v10 v11 W => ∃ (k p bn cn bk ck : Nat) (now kept : List Pge), k ≤ n0 ∧ k ≤ 50 ∧ v7 = .pointer (some ⟨p, 0, none⟩) ∧ v9 = .slice (some ⟨bn, 0, none⟩) now.length cn ∧ v10 = .slice (some ⟨bk, 0, none⟩) kept.length ck ∧ v11 = .int .i64 (k : Nat) ∧ Al w.heap.size w d g p (k0 + 2) (7 + 300 * k) bn cn bk ck now kept W) (fun _ _ _ _ t _ => n0 - (intOf t).toNat)
  case atStart => exact ⟨0, p, w2.heap.size, 0, w2.heap.size + 1, 0, [], [], Nat.zero_le _, Nat.zero_le _, rfl, rfl, rfl, rfl, HA.out⟩
  case round =>
    clear HA
    obtain ⟨k, p, bn, cn, bk, ck, now, kept, hkn, hk50, rfl, rfl, rfl, rfl, hA⟩ := hrel
    by_cases hlt : k < n0 ∧ k < 50
    · obtain ⟨hlt, h50⟩ := hlt
      have hp := ptr (by omega)
      subst hp
      have C0 := cell_low hA.bel (gc0 k hlt)
      have C1 := cell_low hA.bel (gc1 k hlt)
      have C2 := cell_low hA.bel (gc2 k hlt)
      generalize what k = wh at C0
      generalize kind k = kd at C1
      generalize str k = st at C2
      clear ptr gc0 gc1 gc2
      obtain ⟨few1, few2, _, _⟩ := hA.gs.few
      have i1 : (0 : Int) ≤ (k : Int) := by omega
      have i2 : (k : Int) < (n0 : Int) := by omega
      have i3 : (k : Int) < 50 := by omega
      obtain ⟨t, ht⟩ : ∃ t, wh.tmod 6 = t := ⟨_, rfl⟩
      have KA : D.Kept wr (wr.alloc (.cells #[.int .i64 wh, .int .i64 kd, .string st] 31)) := (D.Kept.refl wr).alloc _
      have HA : Hid (Al w.heap.size w d g p (k0 + 2) (7 + 300 * k) bn cn bk ck now kept (wr.alloc (.cells #[.int .i64 wh, .int .i64 kd, .string st] 31))) := hA.kept KA
      clear hA KA
      by_cases t4 : t = 4
      · as_aux_lemma =>
        have f14 := gs_undo HA.out.gs HA.out.hB
        go_wp2_with (go_at_call 14; (with_reducible refine f14.mono ?_); rintro e w3 ⟨rfl, G3, o3⟩; have HA3 : Hid (Al w.heap.size w d g p (k0 + 2) (7 + 300 * k) bk ck bk ck kept kept w3) := HA.out.step o3 G3 (HA.out.ls.both.on o3); clear G3 o3 f14)
        go_loopg [20, 21] kept.length (fun n v20 v21 wx => ∃ j : Nat, j + n = kept.length ∧ v21 = .int .i64 j ∧ v20 = .int .i64 ((k0 : Int) - (kept.length : Int) - ((gone kept (kept.take j)).length : Int)) ∧ D.Kept w3 wx)
        case atStart => exact ⟨0, by omega, rfl, by congr 1; simp [gone]; try omega, D.Kept.refl _⟩
        case round =>
          obtain ⟨j, hjn, rfl, rfl, hKj⟩ := hrel
          have HAj : Hid (Al w.heap.size w d g p (k0 + 2) (7 + 300 * k) bk ck bk ck kept kept wr) := HA3.out.kept hKj
          have HKj : Hid (D.Kept w3 wr) := hKj
          clear hKj
          by_cases hj : j < kept.length
          · obtain ⟨x, hx⟩ : ∃ x, kept[j]? = some x := ⟨kept[j], List.getElem?_eq_getElem hj⟩
            obtain ⟨d0, d1, d2⟩ := HAj.out.ls.kept_.cell hx
            have f9 := has_walk HAj.out.ls.now_ x.n (by omega)
            have HE : Hid _ := gone_next (now := kept) hx
            have j1 : (0 : Int) ≤ (j : Int) := by omega
            have j2 : (j : Int) < (kept.length : Int) := by omega
            have gl : (gone kept (kept.take j)).length ≤ 100 := Nat.le_trans (List.length_filter_le _ _) (by rw [List.length_take]; omega)
            obtain ⟨xn, xk, xs⟩ := x
            dsimp only at d0 d1 d2 f9
            clear hx
            cases hh : hasN kept xn with
            | true =>
              rw [hh] at f9
              go_wp2_with (go_at_call 9; (with_reducible refine f9.mono ?_); rintro e w4 ⟨rfl, K4⟩; clear f9)
              obtain ⟨n', rfl⟩ : ∃ n', gk = n' + 1 := ⟨gk - 1, by omega⟩
              go_roundg n'
              case measure => omega
              case rel => exact ⟨j + 1, by omega, by go_num, by have e := HE.out; rw [hh] at e; rw [e]; congr 1, HKj.out.trans K4⟩
            | false =>
              rw [hh] at f9
              go_wp2_with (go_at_call 9; (with_reducible refine f9.mono ?_); rintro e w4 ⟨rfl, K4⟩; clear f9)
              obtain ⟨n', rfl⟩ : ∃ n', gk = n' + 1 := ⟨gk - 1, by omega⟩
              go_roundg n'
              case measure => omega
              case rel => exact ⟨j + 1, by omega, by go_num, by have e := HE.out; rw [hh] at e; rw [e]; go_num, HKj.out.trans K4⟩
          · have hjl : j = kept.length := by omega
            subst hjl
            rw [List.take_length] at *
            have f17 := gs_reads HAj.out.gs HAj.out.hB (by omega) HAj.out.ls.now_
            go_wp2_with (first
              | (go_at_call 17; (with_reducible refine f17.mono ?_); rintro e w5 ⟨rfl, G5, o5⟩; have HA5 : Hid (Al w.heap.size w d g p (k0 + 2) (7 + 300 * k + 30) bk ck bk ck kept kept w5) := HAj.out.step o5 G5 (HAj.out.ls.on o5); have f18 := gs_left G5; rw [show ((k0 + 2 : Nat) : Int) - 2 - (kept.length : Int) - ((gone kept kept).length : Int) = (k0 : Int) - (kept.length : Int) - ((gone kept kept).length : Int) by omega] at f18; clear G5 o5 f17)
              | (go_at_call 18; (with_reducible refine f18.mono ?_); rintro e w6 ⟨rfl, hw6⟩; rw [hw6]; clear hw6 f18))
            go_roundw
            case rel => exact ⟨k + 1, p, bk, ck, bk, ck, kept, kept, by omega, by omega, rfl, rfl, rfl, by go_num, HA5.out.mono (by omega)⟩
            case measure => simp [intOf]; omega
      by_cases t3 : t = 3
      · as_aux_lemma =>
        have f13 := gs_commit HA.out.gs HA.out.hB (by omega)
        go_wp2_with (go_at_call 13; (with_reducible refine f13.mono ?_); rintro e w3 ⟨rfl, G3, o3⟩; have HA3 : Hid (Al w.heap.size w d g p (k0 + 2) (7 + 300 * k + 70) bn cn bn cn now now w3) := HA.out.step o3 G3 (HA.out.ls.both'.on o3); clear G3 o3 f13)
        go_loopg [20, 21] now.length (fun n v20 v21 wx => ∃ j : Nat, j + n = now.length ∧ v21 = .int .i64 j ∧ v20 = .int .i64 ((k0 : Int) - (now.length : Int) - ((gone now (now.take j)).length : Int)) ∧ D.Kept w3 wx)
        case atStart => exact ⟨0, by omega, rfl, by congr 1; simp [gone]; try omega, D.Kept.refl _⟩
        case round =>
          obtain ⟨j, hjn, rfl, rfl, hKj⟩ := hrel
          have HAj : Hid (Al w.heap.size w d g p (k0 + 2) (7 + 300 * k + 70) bn cn bn cn now now wr) := HA3.out.kept hKj
          have HKj : Hid (D.Kept w3 wr) := hKj
          clear hKj
          by_cases hj : j < now.length
          · obtain ⟨x, hx⟩ : ∃ x, now[j]? = some x := ⟨now[j], List.getElem?_eq_getElem hj⟩
            obtain ⟨d0, d1, d2⟩ := HAj.out.ls.kept_.cell hx
            have f9 := has_walk HAj.out.ls.now_ x.n (by omega)
            have HE : Hid _ := gone_next (now := now) hx
            have j1 : (0 : Int) ≤ (j : Int) := by omega
            have j2 : (j : Int) < (now.length : Int) := by omega
            have gl : (gone now (now.take j)).length ≤ 100 := Nat.le_trans (List.length_filter_le _ _) (by rw [List.length_take]; omega)
            obtain ⟨xn, xk, xs⟩ := x
            dsimp only at d0 d1 d2 f9
            clear hx
            cases hh : hasN now xn with
            | true =>
              rw [hh] at f9
              go_wp2_with (go_at_call 9; (with_reducible refine f9.mono ?_); rintro e w4 ⟨rfl, K4⟩; clear f9)
              obtain ⟨n', rfl⟩ : ∃ n', gk = n' + 1 := ⟨gk - 1, by omega⟩
              go_roundg n'
              case measure => omega
              case rel => exact ⟨j + 1, by omega, by go_num, by have e := HE.out; rw [hh] at e; rw [e]; congr 1, HKj.out.trans K4⟩
            | false =>
              rw [hh] at f9
              go_wp2_with (go_at_call 9; (with_reducible refine f9.mono ?_); rintro e w4 ⟨rfl, K4⟩; clear f9)
              obtain ⟨n', rfl⟩ : ∃ n', gk = n' + 1 := ⟨gk - 1, by omega⟩
              go_roundg n'
              case measure => omega
              case rel => exact ⟨j + 1, by omega, by go_num, by have e := HE.out; rw [hh] at e; rw [e]; go_num, HKj.out.trans K4⟩
          · have hjl : j = now.length := by omega
            subst hjl
            rw [List.take_length] at *
            have f17 := gs_reads HAj.out.gs HAj.out.hB (by omega) HAj.out.ls.now_
            go_wp2_with (first
              | (go_at_call 17; (with_reducible refine f17.mono ?_); rintro e w5 ⟨rfl, G5, o5⟩; have HA5 : Hid (Al w.heap.size w d g p (k0 + 2) (7 + 300 * k + 70 + 30) bn cn bn cn now now w5) := HAj.out.step o5 G5 (HAj.out.ls.on o5); have f18 := gs_left G5; rw [show ((k0 + 2 : Nat) : Int) - 2 - (now.length : Int) - ((gone now now).length : Int) = (k0 : Int) - (now.length : Int) - ((gone now now).length : Int) by omega] at f18; clear G5 o5 f17)
              | (go_at_call 18; (with_reducible refine f18.mono ?_); rintro e w6 ⟨rfl, hw6⟩; rw [hw6]; clear hw6 f18))
            go_roundw
            case rel => exact ⟨k + 1, p, bn, cn, bn, cn, now, now, by omega, by omega, rfl, rfl, rfl, by go_num, HA5.out.mono (by omega)⟩
            case measure => simp [intOf]; omega
      by_cases t2 : t = 2
      · as_aux_lemma =>
        by_cases hz : now.length = 0
        · have hzi : (now.length : Int) ≤ 0 := by omega
          clear hz
          go_wp2
          have hd : decide (0 < now.length) = false := decide_eq_false (by omega)
          rw [hd]
          clear hd hzi
          generalize wr.alloc (.cells #[.int .i64 wh, .int .i64 kd, .string st] 31) = wa at HA ⊢
          go_loopg [20, 21] kept.length (fun n v20 v21 wx => ∃ j : Nat, j + n = kept.length ∧ v21 = .int .i64 j ∧ v20 = .int .i64 ((k0 : Int) - (now.length : Int) - ((gone now (kept.take j)).length : Int)) ∧ D.Kept wa wx)
          case atStart => exact ⟨0, by omega, rfl, by congr 1; simp [gone]; try omega, D.Kept.refl _⟩
          case round =>
            obtain ⟨j, hjn, rfl, rfl, hKj⟩ := hrel
            have HAj : Hid (Al w.heap.size w d g p (k0 + 2) (7 + 300 * k) bn cn bk ck now kept wr) := HA.out.kept hKj
            have HKj : Hid (D.Kept wa wr) := hKj
            clear hKj
            by_cases hj : j < kept.length
            · obtain ⟨x, hx⟩ : ∃ x, kept[j]? = some x := ⟨kept[j], List.getElem?_eq_getElem hj⟩
              obtain ⟨d0, d1, d2⟩ := HAj.out.ls.kept_.cell hx
              have f9 := has_walk HAj.out.ls.now_ x.n (by omega)
              have HE : Hid _ := gone_next (now := now) hx
              have j1 : (0 : Int) ≤ (j : Int) := by omega
              have j2 : (j : Int) < (kept.length : Int) := by omega
              have gl : (gone now (kept.take j)).length ≤ 100 := Nat.le_trans (List.length_filter_le _ _) (by rw [List.length_take]; omega)
              obtain ⟨xn, xk, xs⟩ := x
              dsimp only at d0 d1 d2 f9
              clear hx
              cases hh : hasN now xn with
              | true =>
                rw [hh] at f9
                go_wp2_with (go_at_call 9; (with_reducible refine f9.mono ?_); rintro e w4 ⟨rfl, K4⟩; clear f9)
                obtain ⟨n', rfl⟩ : ∃ n', gk = n' + 1 := ⟨gk - 1, by omega⟩
                go_roundg n'
                case measure => omega
                case rel => exact ⟨j + 1, by omega, by go_num, by have e := HE.out; rw [hh] at e; rw [e]; congr 1, HKj.out.trans K4⟩
              | false =>
                rw [hh] at f9
                go_wp2_with (go_at_call 9; (with_reducible refine f9.mono ?_); rintro e w4 ⟨rfl, K4⟩; clear f9)
                obtain ⟨n', rfl⟩ : ∃ n', gk = n' + 1 := ⟨gk - 1, by omega⟩
                go_roundg n'
                case measure => omega
                case rel => exact ⟨j + 1, by omega, by go_num, by have e := HE.out; rw [hh] at e; rw [e]; go_num, HKj.out.trans K4⟩
            · have hjl : j = kept.length := by omega
              subst hjl
              rw [List.take_length] at *
              have f17 := gs_reads HAj.out.gs HAj.out.hB (by omega) HAj.out.ls.now_
              go_wp2_with (first
                | (go_at_call 17; (with_reducible refine f17.mono ?_); rintro e w5 ⟨rfl, G5, o5⟩; have HA5 : Hid (Al w.heap.size w d g p (k0 + 2) (7 + 300 * k + 30) bn cn bk ck now kept w5) := HAj.out.step o5 G5 (HAj.out.ls.on o5); have f18 := gs_left G5; rw [show ((k0 + 2 : Nat) : Int) - 2 - (now.length : Int) - ((gone now kept).length : Int) = (k0 : Int) - (now.length : Int) - ((gone now kept).length : Int) by omega] at f18; clear G5 o5 f17)
                | (go_at_call 18; (with_reducible refine f18.mono ?_); rintro e w6 ⟨rfl, hw6⟩; rw [hw6]; clear hw6 f18))
              go_roundw
              case rel => exact ⟨k + 1, p, bn, cn, bk, ck, now, kept, by omega, by omega, rfl, rfl, rfl, by go_num, HA5.out.mono (by omega)⟩
              case measure => simp [intOf]; omega
        · have hzi : (0 : Int) < (now.length : Int) := by omega
          have hzn : ¬ ((now.length : Int) = 0) := by omega
          obtain ⟨z, hzz⟩ : ∃ z, kd.tmod (now.length : Int) = z := ⟨_, rfl⟩
          have z1 : -(now.length : Int) < z := by rw [← hzz]; exact Int.lt_tmod_of_pos kd hzi
          have z2 : z < (now.length : Int) := by rw [← hzz]; exact Int.tmod_lt_of_pos kd hzi
          obtain ⟨j0, hj0⟩ : ∃ j0 : Nat, (z + (now.length : Int)).tmod (now.length : Int) = (j0 : Int) := ⟨((z + (now.length : Int)).tmod (now.length : Int)).toNat, (Int.toNat_of_nonneg (Int.tmod_nonneg _ (by omega))).symm⟩
          have hjl : j0 < now.length := by have := Int.tmod_lt_of_pos (z + (now.length : Int)) hzi; omega
          obtain ⟨x, hx⟩ : ∃ x, now[j0]? = some x := ⟨now[j0], List.getElem?_eq_getElem hjl⟩
          obtain ⟨d0, d1, d2⟩ := HA.out.ls.now_.cell hx
          have f11 := gs_drop HA.out.gs HA.out.hB (List.mem_of_getElem? hx)
          have q1 : (0 : Int) ≤ (j0 : Int) := by omega
          have q2 : (j0 : Int) < (now.length : Int) := by omega
          obtain ⟨xn, xk, xs⟩ := x
          dsimp only at d0 d1 d2 f11
          have hwl : (without now xn).length ≤ now.length := List.length_filter_le _ _
          clear hx
          go_wp2_with (first
            | (go_at_call 11; (with_reducible refine f11.mono ?_); rintro e w3 ⟨rfl, G3, o3⟩; have L3 : Hid (Ls w.heap.size w3 bn cn bk ck now kept) := HA.out.ls.on o3; have f12 := without_walk L3.out.now_ xn (by omega); have b3 : Hid (Below w.heap.size w w3 ∧ w.heap.size ≤ w3.heap.size) := ⟨HA.out.bel.trans (o3.below.mono HA.out.wB), Nat.le_trans HA.out.hB o3.size⟩; have HG3 : Hid (Gs w.heap.size w3 d g p (k0 + 2) (7 + 300 * k) (without now xn) kept) := G3; clear f11 G3 o3)
            | (go_at_call 12; (with_reducible refine f12.mono ?_); rintro e w4 ⟨g4, c4, rfl, P4, K4⟩; have HA4 : Hid (Al w.heap.size w d g p (k0 + 2) (7 + 300 * k) g4 c4 bk ck (without now xn) kept w4) := ⟨HG3.out.kept K4, ⟨P4.mono b3.out.2, L3.out.kept_.kept K4, fun e => by obtain ⟨_, _, hle, _⟩ := P4.blk; have := L3.out.kept_.lt; omega⟩, b3.out.1.trans (K4.out.mono b3.out.2), Nat.le_refl _, Nat.le_trans b3.out.2 K4.size⟩; clear f12 P4 K4))
          generalize without now xn = nw at HA4 ⊢
          obtain ⟨few3, _, _, _⟩ := HA4.out.gs.few
          go_loopg [20, 21] kept.length (fun n v20 v21 wx => ∃ j : Nat, j + n = kept.length ∧ v21 = .int .i64 j ∧ v20 = .int .i64 ((k0 : Int) - (nw.length : Int) - ((gone nw (kept.take j)).length : Int)) ∧ D.Kept w4 wx)
          case atStart => exact ⟨0, by omega, rfl, by congr 1; simp [gone]; try omega, D.Kept.refl _⟩
          case round =>
            obtain ⟨j, hjn, rfl, rfl, hKj⟩ := hrel
            have HAj : Hid (Al w.heap.size w d g p (k0 + 2) (7 + 300 * k) g4 c4 bk ck nw kept wr) := HA4.out.kept hKj
            have HKj : Hid (D.Kept w4 wr) := hKj
            clear hKj
            by_cases hj : j < kept.length
            · obtain ⟨x, hx⟩ : ∃ x, kept[j]? = some x := ⟨kept[j], List.getElem?_eq_getElem hj⟩
              obtain ⟨d0, d1, d2⟩ := HAj.out.ls.kept_.cell hx
              have f9 := has_walk HAj.out.ls.now_ x.n (by omega)
              have HE : Hid _ := gone_next (now := nw) hx
              have j1 : (0 : Int) ≤ (j : Int) := by omega
              have j2 : (j : Int) < (kept.length : Int) := by omega
              have gl : (gone nw (kept.take j)).length ≤ 100 := Nat.le_trans (List.length_filter_le _ _) (by rw [List.length_take]; omega)
              obtain ⟨xn, xk, xs⟩ := x
              dsimp only at d0 d1 d2 f9
              clear hx
              cases hh : hasN nw xn with
              | true =>
                rw [hh] at f9
                go_wp2_with (go_at_call 9; (with_reducible refine f9.mono ?_); rintro e w4 ⟨rfl, K4⟩; clear f9)
                obtain ⟨n', rfl⟩ : ∃ n', gk = n' + 1 := ⟨gk - 1, by omega⟩
                go_roundg n'
                case measure => omega
                case rel => exact ⟨j + 1, by omega, by go_num, by have e := HE.out; rw [hh] at e; rw [e]; congr 1, HKj.out.trans K4⟩
              | false =>
                rw [hh] at f9
                go_wp2_with (go_at_call 9; (with_reducible refine f9.mono ?_); rintro e w4 ⟨rfl, K4⟩; clear f9)
                obtain ⟨n', rfl⟩ : ∃ n', gk = n' + 1 := ⟨gk - 1, by omega⟩
                go_roundg n'
                case measure => omega
                case rel => exact ⟨j + 1, by omega, by go_num, by have e := HE.out; rw [hh] at e; rw [e]; go_num, HKj.out.trans K4⟩
            · have hjl : j = kept.length := by omega
              subst hjl
              rw [List.take_length] at *
              have f17 := gs_reads HAj.out.gs HAj.out.hB (by omega) HAj.out.ls.now_
              go_wp2_with (first
                | (go_at_call 17; (with_reducible refine f17.mono ?_); rintro e w5 ⟨rfl, G5, o5⟩; have HA5 : Hid (Al w.heap.size w d g p (k0 + 2) (7 + 300 * k + 30) g4 c4 bk ck nw kept w5) := HAj.out.step o5 G5 (HAj.out.ls.on o5); have f18 := gs_left G5; rw [show ((k0 + 2 : Nat) : Int) - 2 - (nw.length : Int) - ((gone nw kept).length : Int) = (k0 : Int) - (nw.length : Int) - ((gone nw kept).length : Int) by omega] at f18; clear G5 o5 f17)
                | (go_at_call 18; (with_reducible refine f18.mono ?_); rintro e w6 ⟨rfl, hw6⟩; rw [hw6]; clear hw6 f18))
              go_roundw
              case rel => exact ⟨k + 1, p, g4, c4, bk, ck, nw, kept, by omega, by omega, rfl, rfl, rfl, by go_num, HA5.out.mono (by omega)⟩
              case measure => simp [intOf]; omega
      by_cases t01 : ¬ t = 0 ∧ ¬ t = 1
      · as_aux_lemma =>
        obtain ⟨t0, t1⟩ := t01
        have f15 := gs_open HA.out.gs HA.out.hB (by omega)
        go_wp2_with (go_at_call 15; (with_reducible refine f15.mono ?_); rintro e w3 ⟨p3, rfl, G3, o3⟩; have HG3 : Hid (Go_ w.heap.size w3 d g p3 (k0 + 2) (7 + 300 * k + 2) kept 0) := G3; have HO3 : Hid _ := o3; clear f15 G3 o3)
        go_loopg [19] kept.length (fun n c wx => ∃ j : Nat, j + n = kept.length ∧ c = .int .i64 j ∧ Go_ w.heap.size wx d g p3 (k0 + 2) (7 + 300 * k + 2) kept j ∧ On w.heap.size w3 wx)
        case atStart => exact ⟨0, by omega, rfl, HG3.out, On.refl _ _⟩
        case round =>
          obtain ⟨j, hjn, rfl, hGo, hOj⟩ := hrel
          have LK : Hid (PL w.heap.size wr bk ck kept) := (HA.out.ls.kept_.on HO3.out).on hOj
          by_cases hj : j < kept.length
          · obtain ⟨x, hx⟩ : ∃ x, kept[j]? = some x := ⟨kept[j], List.getElem?_eq_getElem hj⟩
            obtain ⟨d0, d1, d2⟩ := LK.out.cell hx
            have f16 := go_mark hGo hx
            have HOJ : Hid _ := hOj
            have HX : Hid (kept[j]? = some x) := hx
            have j1 : (0 : Int) ≤ (j : Int) := by omega
            have j2 : (j : Int) < (kept.length : Int) := by omega
            obtain ⟨xn, xk, xs⟩ := x
            dsimp only at d0 d1 d2 f16
            clear hx hGo hOj
            go_wp2_with (first
              | (go_at_call 16; (with_reducible refine f16.mono ?_); rintro e w4 ⟨rfl, G4, o4, f16b⟩; have HG4 : Hid (Go_ w.heap.size w4 d g p3 (k0 + 2) (7 + 300 * k + 2) kept (j + 1)) := G4; have HO4 : Hid _ := HOJ.out.trans o4; have LK4 := LK.out.on o4; obtain ⟨d0', d1', d2'⟩ := LK4.cell HX.out; dsimp only at d0' d1' d2'; clear f16 G4 o4)
              | (go_at_call 16; (with_reducible refine f16b.mono ?_); rintro e w5 ⟨rfl, hw5⟩; rw [hw5]; clear hw5 f16b))
            obtain ⟨n', rfl⟩ : ∃ n', gk = n' + 1 := ⟨gk - 1, by omega⟩
            go_roundg n'
            case measure => omega
            case rel => exact ⟨j + 1, by omega, by go_num, HG4.out, HO4.out⟩
          · have hjl : j = kept.length := by omega
            subst hjl
            have HA3 : Hid (Al w.heap.size w d g p3 (k0 + 2) (7 + 300 * k + 2) bk ck bk ck kept kept wr) := ⟨go_all hGo, ⟨LK.out, LK.out, fun _ => Nat.le_refl _⟩, HA.out.bel.trans ((HO3.out.trans hOj).below.mono HA.out.wB), HA.out.wB, Nat.le_trans HA.out.hB (HO3.out.trans hOj).size⟩
            clear hGo hOj LK
            obtain ⟨wq, rfl⟩ : ∃ wq, wq = wr := ⟨_, rfl⟩
            go_wp2
            go_loopg [20, 21] kept.length (fun n v20 v21 wx => ∃ j : Nat, j + n = kept.length ∧ v21 = .int .i64 j ∧ v20 = .int .i64 ((k0 : Int) - (kept.length : Int) - ((gone kept (kept.take j)).length : Int)) ∧ D.Kept wq wx)
            case atStart => exact ⟨0, by omega, rfl, by congr 1; simp [gone]; try omega, D.Kept.refl _⟩
            case round =>
              obtain ⟨j, hjn, rfl, rfl, hKj⟩ := hrel
              have HAj : Hid (Al w.heap.size w d g p3 (k0 + 2) (7 + 300 * k + 2) bk ck bk ck kept kept wr) := HA3.out.kept hKj
              have HKj : Hid (D.Kept wq wr) := hKj
              clear hKj
              by_cases hj : j < kept.length
              · obtain ⟨x, hx⟩ : ∃ x, kept[j]? = some x := ⟨kept[j], List.getElem?_eq_getElem hj⟩
                obtain ⟨d0, d1, d2⟩ := HAj.out.ls.kept_.cell hx
                have f9 := has_walk HAj.out.ls.now_ x.n (by omega)
                have HE : Hid _ := gone_next (now := kept) hx
                have j1 : (0 : Int) ≤ (j : Int) := by omega
                have j2 : (j : Int) < (kept.length : Int) := by omega
                have gl : (gone kept (kept.take j)).length ≤ 100 := Nat.le_trans (List.length_filter_le _ _) (by rw [List.length_take]; omega)
                obtain ⟨xn, xk, xs⟩ := x
                dsimp only at d0 d1 d2 f9
                clear hx
                cases hh : hasN kept xn with
                | true =>
                  rw [hh] at f9
                  go_wp2_with (go_at_call 9; (with_reducible refine f9.mono ?_); rintro e w4 ⟨rfl, K4⟩; clear f9)
                  obtain ⟨n', rfl⟩ : ∃ n', gk = n' + 1 := ⟨gk - 1, by omega⟩
                  go_roundg n'
                  case measure => omega
                  case rel => exact ⟨j + 1, by omega, by go_num, by have e := HE.out; rw [hh] at e; rw [e]; congr 1, HKj.out.trans K4⟩
                | false =>
                  rw [hh] at f9
                  go_wp2_with (go_at_call 9; (with_reducible refine f9.mono ?_); rintro e w4 ⟨rfl, K4⟩; clear f9)
                  obtain ⟨n', rfl⟩ : ∃ n', gk = n' + 1 := ⟨gk - 1, by omega⟩
                  go_roundg n'
                  case measure => omega
                  case rel => exact ⟨j + 1, by omega, by go_num, by have e := HE.out; rw [hh] at e; rw [e]; go_num, HKj.out.trans K4⟩
              · have hjl : j = kept.length := by omega
                subst hjl
                rw [List.take_length] at *
                have f17 := gs_reads HAj.out.gs HAj.out.hB (by omega) HAj.out.ls.now_
                go_wp2_with (first
                  | (go_at_call 17; (with_reducible refine f17.mono ?_); rintro e w5 ⟨rfl, G5, o5⟩; have HA5 : Hid (Al w.heap.size w d g p3 (k0 + 2) (7 + 300 * k + 2 + 30) bk ck bk ck kept kept w5) := HAj.out.step o5 G5 (HAj.out.ls.on o5); have f18 := gs_left G5; rw [show ((k0 + 2 : Nat) : Int) - 2 - (kept.length : Int) - ((gone kept kept).length : Int) = (k0 : Int) - (kept.length : Int) - ((gone kept kept).length : Int) by omega] at f18; clear G5 o5 f17)
                  | (go_at_call 18; (with_reducible refine f18.mono ?_); rintro e w6 ⟨rfl, hw6⟩; rw [hw6]; clear hw6 f18))
                go_roundw
                case rel => exact ⟨k + 1, p3, bk, ck, bk, ck, kept, kept, by omega, by omega, rfl, rfl, rfl, by go_num, HA5.out.mono (by omega)⟩
                case measure => simp [intOf]; omega
      as_aux_lemma =>
        obtain ⟨kk, hkk, ekk⟩ := D.low 2 3 (by omega) (by decide) kd
        have ekk' : bits .and .i64 kd 3 = (kk : Int) := ekk
        have hkk4 : kk < 4 := hkk
        obtain ⟨T, hT, hT40⟩ : ∃ T, st.extract 0 (min (st.size : Int) 40).toNat = T ∧ T.size ≤ 40 := ⟨_, rfl, by rw [ByteArray.size_extract]; omega⟩
        clear ekk hkk
        have t01' : t = 0 ∨ t = 1 := by omega
        clear t01 t2 t3 t4
        rcases t01' with t0 | t0
        all_goals
          go_wp2
          go_quiet (fail)
          have KW : D.Kept (wr.alloc (.cells #[.int .i64 wh, .int .i64 kd, .string st] 31)) ((wr.alloc (.cells #[.int .i64 wh, .int .i64 kd, .string st] 31)).drewN nq) := (D.Kept.refl _).drewN nq
          have HW : Hid (Al w.heap.size w d g p (k0 + 2) (7 + 300 * k) bn cn bk ck now kept ((wr.alloc (.cells #[.int .i64 wh, .int .i64 kd, .string st] 31)).drewN nq)) := HA.out.kept KW
          clear KW HA
          generalize (wr.alloc (.cells #[.int .i64 wh, .int .i64 kd, .string st] 31)).drewN nq = wa at HW ⊢
          clear hT ekk' t0 ht C0 C1 C2
          go_wp2
          go_loopg [15] k0 (fun n v15 wx => ∃ want : Nat, want + n = k0 + 2 ∧ v15 = .int .i64 (want : Nat) ∧ 2 ≤ want ∧ (∀ j, 2 ≤ j → j < want → (hasN now j || hasN kept j) = true) ∧ D.Kept wa wx)
          case atStart => exact ⟨2, by omega, rfl, by omega, fun j a b => by omega, D.Kept.refl _⟩
          case round =>
            obtain ⟨want, hwn, rfl, hw2, hwb, hKa⟩ := hrel
            have HAa : Hid (Al w.heap.size w d g p (k0 + 2) (7 + 300 * k) bn cn bk ck now kept wr) := HW.out.kept hKa
            have HKa : Hid (D.Kept wa wr) := hKa
            have HWB : Hid (∀ j, 2 ≤ j → j < want → (hasN now j || hasN kept j) = true) := hwb
            clear hKa hwb
            by_cases hwm : want < k0 + 2
            · have hwi : (want : Int) < (k0 : Int) + 2 := by omega
              have hwe : ¬ ((want : Int) = (k0 : Int) + 2) := by omega
              have hwn' : ¬ (want = k0 + 2) := by omega
              have f9 := has_walk HAa.out.ls.now_ want (by omega)
              cases h1 : hasN now want with
              | true =>
                rw [h1] at f9
                have HN : Hid (∀ j, 2 ≤ j → j < want + 1 → (hasN now j || hasN kept j) = true) := fun j a b => by
                  by_cases e : j = want
                  · subst e; rw [h1]; rfl
                  · exact HWB.out j a (by omega)
                clear h1
                go_wp2_with (go_at_call 9; (with_reducible refine f9.mono ?_); rintro e w4 ⟨rfl, K4⟩; clear f9)
                obtain ⟨n', rfl⟩ : ∃ n', gk = n' + 1 := ⟨gk - 1, by omega⟩
                go_roundg n'
                case measure => omega
                case rel => exact ⟨want + 1, by omega, by go_num, by omega, HN.out, HKa.out.trans K4⟩
              | false =>
                rw [h1] at f9
                cases h2 : hasN kept want with
                | true =>
                  have HN : Hid (∀ j, 2 ≤ j → j < want + 1 → (hasN now j || hasN kept j) = true) := fun j a b => by
                    by_cases e : j = want
                    · subst e; rw [h1, h2]; rfl
                    · exact HWB.out j a (by omega)
                  have H2 : Hid (hasN kept want = true) := h2
                  clear h1 h2
                  go_wp2_with (first
                    | (go_at_call 9; (with_reducible refine f9.mono ?_); rintro e w4 ⟨rfl, K4⟩; have f9b := has_walk (HAa.out.kept K4).ls.kept_ want (by omega); rw [H2.out] at f9b; clear f9)
                    | (go_at_call 9; (with_reducible refine f9b.mono ?_); rintro e w5 ⟨rfl, K5⟩; clear f9b))
                  obtain ⟨n', rfl⟩ : ∃ n', gk = n' + 1 := ⟨gk - 1, by omega⟩
                  go_roundg n'
                  case measure => omega
                  case rel => exact ⟨want + 1, by omega, by go_num, by omega, HN.out, (HKa.out.trans K4).trans K5⟩
                | false =>
                  have H2 : Hid (hasN now want = false ∧ hasN kept want = false) := ⟨h1, h2⟩
                  clear h1 h2
                  go_wp2_with (first
                    | (go_at_call 9; (with_reducible refine f9.mono ?_); rintro e w4 ⟨rfl, K4⟩; have f9b := has_walk (HAa.out.kept K4).ls.kept_ want (by omega); rw [H2.out.2] at f9b; clear f9)
                    | (go_at_call 9; (with_reducible refine f9b.mono ?_); rintro e w5 ⟨rfl, K5⟩; have HA5 : Hid (Al w.heap.size w d g p (k0 + 2) (7 + 300 * k) bn cn bk ck now kept w5) := (HAa.out.kept K4).kept K5; have f10 := gs_add HA5.out.gs HA5.out.hB (lds_kept hL ⟨HA5.out.bel⟩) (by omega) want hw2 hwm H2.out HWB.out ((kk : Int) + 1) T (by omega) (by omega) hT40; clear f9b K4 K5)
                    | (go_at_call 10; (with_reducible refine f10.mono ?_); rintro e w6 ⟨rfl, G6, o6⟩; obtain ⟨g7, c7, w7, hr, L7, ga7, bel7⟩ := ls_append (HA5.out.ls.on o6) (Nat.le_trans HA5.out.hB o6.size) (by omega) 29 want ((kk : Int) + 1) T; have HA7 : Hid (Al w.heap.size w d g p (k0 + 2) (7 + 300 * k) g7 c7 bk ck (now ++ [⟨want, (kk : Int) + 1, T⟩]) kept w7) := (by obtain ⟨a, q, M, e1, e2, hG, v⟩ := G6.out; exact ⟨⟨a, q, M, e1, e2, ga7 _ _ _ hG, v⟩, L7, (HA5.out.bel.trans (o6.below.mono HA5.out.wB)).trans bel7, HA5.out.wB, Nat.le_trans (Nat.le_trans HA5.out.hB o6.size) bel7.size⟩); clear f10 G6 o6 L7 ga7 bel7)
                    | (at_builtin; refine S.wpList_append_run rfl _ _ _ _ _ _ rfl rfl rfl hr ?_))
                  clear hr
                  obtain ⟨nw, hnw⟩ : ∃ nw, now ++ [(⟨want, (kk : Int) + 1, T⟩ : Pge)] = nw := ⟨_, rfl⟩
                  rw [hnw] at HA7
                  have hln : now.length + 1 = nw.length := by rw [← hnw]; simp
                  rw [hln]
                  obtain ⟨few3, _, _, _⟩ := HA7.out.gs.few
                  clear hnw
                  go_loopg [20, 21] kept.length (fun n v20 v21 wx => ∃ j : Nat, j + n = kept.length ∧ v21 = .int .i64 j ∧ v20 = .int .i64 ((k0 : Int) - (nw.length : Int) - ((gone nw (kept.take j)).length : Int)) ∧ D.Kept w7 wx)
                  case atStart => exact ⟨0, by omega, rfl, by congr 1; simp [gone]; try omega, D.Kept.refl _⟩
                  case round =>
                    obtain ⟨j, hjn, rfl, rfl, hKj⟩ := hrel
                    have HAj : Hid (Al w.heap.size w d g p (k0 + 2) (7 + 300 * k) g7 c7 bk ck nw kept wr) := HA7.out.kept hKj
                    have HKj : Hid (D.Kept w7 wr) := hKj
                    clear hKj
                    by_cases hj : j < kept.length
                    · obtain ⟨x, hx⟩ : ∃ x, kept[j]? = some x := ⟨kept[j], List.getElem?_eq_getElem hj⟩
                      obtain ⟨d0, d1, d2⟩ := HAj.out.ls.kept_.cell hx
                      have f9 := has_walk HAj.out.ls.now_ x.n (by omega)
                      have HE : Hid _ := gone_next (now := nw) hx
                      have j1 : (0 : Int) ≤ (j : Int) := by omega
                      have j2 : (j : Int) < (kept.length : Int) := by omega
                      have gl : (gone nw (kept.take j)).length ≤ 100 := Nat.le_trans (List.length_filter_le _ _) (by rw [List.length_take]; omega)
                      obtain ⟨xn, xk, xs⟩ := x
                      dsimp only at d0 d1 d2 f9
                      clear hx
                      cases hh : hasN nw xn with
                      | true =>
                        rw [hh] at f9
                        go_wp2_with (go_at_call 9; (with_reducible refine f9.mono ?_); rintro e w4 ⟨rfl, K4⟩; clear f9)
                        obtain ⟨n', rfl⟩ : ∃ n', gk = n' + 1 := ⟨gk - 1, by omega⟩
                        go_roundg n'
                        case measure => omega
                        case rel => exact ⟨j + 1, by omega, by go_num, by have e := HE.out; rw [hh] at e; rw [e]; congr 1, HKj.out.trans K4⟩
                      | false =>
                        rw [hh] at f9
                        go_wp2_with (go_at_call 9; (with_reducible refine f9.mono ?_); rintro e w4 ⟨rfl, K4⟩; clear f9)
                        obtain ⟨n', rfl⟩ : ∃ n', gk = n' + 1 := ⟨gk - 1, by omega⟩
                        go_roundg n'
                        case measure => omega
                        case rel => exact ⟨j + 1, by omega, by go_num, by have e := HE.out; rw [hh] at e; rw [e]; go_num, HKj.out.trans K4⟩
                    · have hjl : j = kept.length := by omega
                      subst hjl
                      rw [List.take_length] at *
                      have f17 := gs_reads HAj.out.gs HAj.out.hB (by omega) HAj.out.ls.now_
                      go_wp2_with (first
                        | (go_at_call 17; (with_reducible refine f17.mono ?_); rintro e w5 ⟨rfl, G5, o5⟩; have HA5 : Hid (Al w.heap.size w d g p (k0 + 2) (7 + 300 * k + 30) g7 c7 bk ck nw kept w5) := HAj.out.step o5 G5 (HAj.out.ls.on o5); have f18 := gs_left G5; rw [show ((k0 + 2 : Nat) : Int) - 2 - (nw.length : Int) - ((gone nw kept).length : Int) = (k0 : Int) - (nw.length : Int) - ((gone nw kept).length : Int) by omega] at f18; clear G5 o5 f17)
                        | (go_at_call 18; (with_reducible refine f18.mono ?_); rintro e w6 ⟨rfl, hw6⟩; rw [hw6]; clear hw6 f18))
                      go_roundw
                      case rel => exact ⟨k + 1, p, g7, c7, bk, ck, nw, kept, by omega, by omega, rfl, rfl, rfl, by go_num, HA5.out.mono (by omega)⟩
                      case measure => simp [intOf]; omega
            · obtain rfl : want = k0 + 2 := by omega
              have f10 := gs_full HAa.out.gs (lds_kept hL ⟨HAa.out.bel⟩) HWB.out ((kk : Int) + 1) T
              go_wp2_with (go_at_call 10; (with_reducible refine f10.mono ?_); rintro e w4 ⟨rfl, hw4⟩; rw [hw4]; clear hw4 f10)
              go_roundw
              case rel => exact ⟨k + 1, p, bn, cn, bk, ck, now, kept, by omega, by omega, rfl, rfl, rfl, by go_num, HAa.out.mono (by omega)⟩
              case measure => simp [intOf]; omega
    · have hge : ¬ ((k : Int) < (n0 : Int)) ∨ ((k : Int) < (n0 : Int) ∧ ¬ ((k : Int) < 50)) := by omega
      have HB : Hid (Below w.heap.size w wr) := hA.bel
      clear hA
      rcases hge with hge | ⟨hg1, hge⟩
      · go_wp2
        go_ret
        exact ⟨rfl, ⟨HB.out⟩⟩
      · go_wp2
        go_ret
        exact ⟨rfl, ⟨HB.out⟩⟩
end Go.Proofs.YthlhnjjofefgcaaGreatDoor.G
