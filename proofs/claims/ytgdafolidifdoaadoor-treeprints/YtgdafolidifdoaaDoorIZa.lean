/- What made makes: rows that grow while elder slices of them are in use. Conditions: each row's own. -/
import Derived.Test.YtgdafolidifdoaaDoorIYa
import Derived.ArgAppend
namespace Go.Proofs.YtgdafolidifdoaaDoor.Tp
open Go.ChangeShapes Go.WideShapes Go.ChangeAt Go.RowKit

/-- An append to a row of one's own: the other blocks stay, and so do the row's own first cells. -/
structure Ap (W W' : World) (row : Option Nat) (m : Nat) : Prop where
  grown : W.grownBy W' row
  own : ∀ (k : Nat) (cs : Array Value) (t : TypeId) (fz : Nat × Nat), some k = row → W.heap[k]? = some (.cells cs t fz) → ∃ cs', W'.heap[k]? = some (.cells cs' t fz) ∧ ∀ j, j < m → cs'[j]? = cs[j]?
theorem Ap.other {W W' : World} {row : Option Nat} {m : Nat} (h : Ap W W' row m) {k : Nat} {o : Obj} (hk : W.heap[k]? = some o) (hne : some k ≠ row) : W'.heap[k]? = some o :=
  (h.grown.block k (Array.getElem?_eq_some_iff.1 hk).1 hne).trans hk
theorem ob_map (p : Option Addr) (n c : Nat) : (Value.slice p n c).ownBlock = p.map Addr.block := by cases p <;> rfl
theorem run_append_ap {P : Program} (w : World) (B : Nat) (t ty e : TypeId) (i : TypeInfo) (z : Value) (size bytes : Nat) (ht : P.underlying t = some (.slice e)) (hi : P.info? e = some i) (hz : i.zero = some z)
    (hsize : i.size = size) (hby : i.bytes = bytes) (hzs : z.cells.size = size) (hsz : 0 < size)
    {p : Option Addr} {n c : Nat} {cs : List Value} (hown : w.ownsRow B e size (.slice p n c) n cs)
    (ad : Addr) (news : List Value) (hl : news.length = size) (hnews : ∀ j u, news[j]? = some u → w.cell? (ad.add j) = some u) (h1 : ∀ u ∈ news, u.oneCell' = true)
    (h63 : n + 1 ≤ maxLen) (hbytes : (n + 1) * bytes ≤ 140737488355328) (hbase : B ≤ w.heap.size) :
    ∃ g cap w', (Builtin.append_ #[t, t] ty #[.slice p n c, .slice (some ad) 1 1]).run P w = .ok (.slice (some ⟨g, 0, none⟩) (n + 1) cap) w' ∧
      w'.ownsRow B e size (.slice (some ⟨g, 0, none⟩) (n + 1) cap) (n + 1) (cs ++ news) ∧ Ap w w' (p.map Addr.block) (n * size) ∧ (p.map Addr.block = some g ∨ w.heap.size ≤ g) := by
  obtain ⟨v', w', hr, h2, h3, h4, h5⟩ := run_append_own_at (P := P) w B t ty e i z size bytes ht hi hz hsize hby hzs hsz (.slice p n c) n cs hown ad 1 1 news (by rw [hl, Nat.one_mul]) hnews h1 h63 hbytes hbase
  have hv : ∃ g cap, v' = .slice (some ⟨g, 0, none⟩) (n + 1) cap := by
    rcases h2.2 with ⟨e0, e1⟩ | ⟨g, cap, cur, e0, _⟩
    · omega
    · exact ⟨g, cap, e0⟩
  obtain ⟨g, cap, rfl⟩ := hv
  rw [ob_map] at h3
  have hg1 : p.map Addr.block = some g ∨ w.heap.size ≤ g := by
    rcases h5 with h5 | h5
    · left; rw [ob_map, ob_map] at h5; exact h5.symm
    · right
      have : g = w.heap.size := by simpa [Value.ownBlock] using h5
      omega
  rcases hown.2 with ⟨e0, e1⟩ | ⟨g0, cap0, cur, e0, hB, hg, hn, hm, hs, ht0⟩
  · injection e0 with e0
    subst e0
    exact ⟨g, cap, w', hr, h2, ⟨h3, fun k _ _ _ hk => by cases hk⟩, hg1⟩
  · injection e0 with e0 _ ec
    subst e0
    subst ec
    by_cases hroom : n + 1 ≤ c
    · have hmul : (n + 1) * size ≤ c * size := Nat.mul_le_mul_right _ hroom
      rw [Nat.add_mul, Nat.one_mul] at hmul
      have hr2 := run_append_room_cells (P := P) w t ty e i ht hi g0 0 n c ad 1 1 news (by rw [hl, hsize, Nat.one_mul]) hnews h1 hroom
        (fun j hj => by
          rw [hsize, Nat.zero_add, cell_of_row w g0 _ _ _ _ hg, Array.getElem?_eq_getElem (by omega)]; rfl)
        (fun j hj => frozen_of_row w g0 _ _ _ hg)
      have hw : g = g0 := by
        have := hr.symm.trans hr2
        injection this with h6 h7
        injection h6 with h6 _ _
        injection h6 with h6
        injection h6
      subst hw
      refine ⟨g, cap, w', hr, h2, ⟨h3, fun k cs0 t0 fz hk hc => ?_⟩, hg1⟩
      simp only [Option.map_some, Option.some.injEq] at hk
      subst hk
      rw [hg] at hc
      injection hc with hc
      injection hc with hc1 hc2 hc3
      subst hc1 hc2 hc3
      rcases h2.2 with ⟨e0, _⟩ | ⟨g9, cap9, cur9, e0, _, hg9, _, _, hs9, ht9⟩
      · cases e0
      · injection e0 with e0 _ _
        injection e0 with e0
        injection e0 with e0
        subst e0
        refine ⟨cur9, hg9, fun j hj => ?_⟩
        have hlen := hown.1
        have a1 : cur9[j]? = (cs ++ news)[j]? := by
          rw [← ht9, List.getElem?_take, if_pos (by rw [Nat.add_mul]; omega), Array.getElem?_toList]
        have a2 : cur[j]? = cs[j]? := by
          rw [← ht0, List.getElem?_take, if_pos hj, Array.getElem?_toList]
        rw [a1, a2, List.getElem?_append_left (by omega)]
    · obtain ⟨v2, w2, hr2, o2, gr2⟩ := run_append_arg_grows (P := P) w t ty e i z size bytes ht hi hz hsize hby hzs hsz ⟨g0, 0, none⟩ n c cs hown.1
        (fun j u hu => by
          rw [Addr.add_lit, Nat.zero_add, cell_of_row w g0 _ _ _ _ hg]
          rw [← ht0, List.getElem?_take] at hu
          split at hu
          · rwa [Array.getElem?_toList] at hu
          · cases hu)
        ad 1 1 news (by rw [hl, Nat.one_mul]) hnews (by omega) h63 hbytes
      have := hr.symm.trans hr2
      injection this with h6 h7
      subst h6
      subst h7
      refine ⟨g, cap, w', hr, h2, ⟨h3, fun k cs0 t0 fz hk hc => ⟨cs0, (gr2.block k (Array.getElem?_eq_some_iff.1 hc).1 (by simp)).trans hc, fun _ _ => rfl⟩⟩, hg1⟩
/-- .. within a region that draws. -/
theorem step_append_ap {P : Program} {w : World} {ops : Array Oper} {o : Oper} {a : Act} {K : Act → World → Prop} {Q : Exit → Act → World → Prop} {E : Prop} (hgd : o.guard = none) (s x : Operand) (t : TypeId)
    (ho : o.op = .call { callee := .builtin .append, args := #[s, x], argTypes := #[t, t] })
    (B : Nat) (e : TypeId) (i : TypeInfo) (z : Value) (size bytes : Nat) (ht : P.underlying t = some (.slice e)) (hi : P.info? e = some i) (hz : i.zero = some z)
    (hsize : i.size = size) (hby : i.bytes = bytes) (hzs : z.cells.size = size) (hsz : 0 < size)
    (p : Option Addr) (n c : Nat) (cs : List Value) (hs : a.eval s = .slice p n c) (hown : w.ownsRow B e size (.slice p n c) n cs)
    (ad : Addr) (news : List Value) (hx : a.eval x = .slice (some ad) 1 1) (hl : news.length = size) (hnews : ∀ j u, news[j]? = some u → w.cell? (ad.add j) = some u) (h1 : ∀ u ∈ news, u.oneCell' = true)
    (h63 : n + 1 ≤ maxLen) (hbytes : (n + 1) * bytes ≤ 140737488355328) (hbase : B ≤ w.heap.size)
    (h : ∀ g cap w', w'.ownsRow B e size (.slice (some ⟨g, 0, none⟩) (n + 1) cap) (n + 1) (cs ++ news) → Ap w w' (p.map Addr.block) (n * size) → (p.map Addr.block = some g ∨ w.heap.size ≤ g) → K (a.put o.dst (.slice (some ⟨g, 0, none⟩) (n + 1) cap)) w') :
    if Region.wanted o (yielded ops a.tmps) = true then Oper.wp P o a w K Q else E := by
  have hw : Region.wanted o (yielded ops a.tmps) = true := by simp [Region.wanted, hgd]
  rw [if_pos hw]
  obtain ⟨g, cap, w', hr, h2, h3, h4⟩ := run_append_ap (P := P) w B t o.type e i z size bytes ht hi hz hsize hby hzs hsz hown ad news hl hnews h1 h63 hbytes hbase
  unfold Oper.wp execOp
  simp only [ho, resolve, invoke, builtin, Sem.run_bind, Sem.run_pure, Result.andThen_ok, List.map_toArray, List.map_cons, List.map_nil, hs, hx, hr]
  exact h g cap w' h2 h3 h4
end Go.Proofs.YtgdafolidifdoaaDoor.Tp
