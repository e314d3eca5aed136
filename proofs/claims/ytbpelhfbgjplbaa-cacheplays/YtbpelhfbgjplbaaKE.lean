/- The walk of the statement's Delete. Conditions: those that each row names. -/
import Derived.Deep.CutRange
import Derived.Test.YtbpelhfbgjplbaaKD
namespace Go.Proofs.Ytbpelhfbgjplbaa.Q
open Go.ChangeShapes Go.WideShapes Go.ChangeAt Go.RowKit
open N (Kept)
variable {E : Nat → Prop}

/-- An append at a step of a region that draws, with the sum a letter. -/
theorem step_append_sum {P : Program} {w : World} {ops : Array Oper} {o : Oper} {a : Act} {K : Act → World → Prop} {Q : Exit → Act → World → Prop} {E : Prop} (hgd : o.guard = none) (s x : Operand) (t : TypeId)
    (ho : o.op = .call { callee := .builtin .append, args := #[s, x], argTypes := #[t, t] })
    (base : Nat) (e : TypeId) (i : TypeInfo) (z : Value) (size bytes : Nat) (ht : P.underlying t = some (.slice e)) (hi : P.info? e = some i) (hz : i.zero = some z)
    (hsize : i.size = size) (hby : i.bytes = bytes) (hzs : z.cells.size = size) (hsz : 0 < size)
    (v : Value) (n : Nat) (xs : List Value) (hs : a.eval s = v) (hown : w.ownsRow base e size v n xs)
    (ad : Addr) (m c : Nat) (news : List Value) (hx : a.eval x = .slice (some ad) m c) (hl : news.length = m * size) (hnews : ∀ j u, news[j]? = some u → w.cell? (ad.add j) = some u) (h1 : ∀ u ∈ news, u.oneCell' = true)
    (hm : v ≠ .slice none 0 0 ∨ 0 < m) (h63 : n + m ≤ maxLen) (hbytes : (n + m) * bytes ≤ 140737488355328) (hbase : base ≤ w.heap.size) (r : Nat) (hr : n + m = r)
    (h : ∀ g cap w', w'.ownsRow base e size (.slice (some ⟨g, 0, none⟩) r cap) r (xs ++ news) → w.grownBy w' v.ownBlock → (v.ownBlock = some g ∨ g = w.heap.size) → K (a.put o.dst (.slice (some ⟨g, 0, none⟩) r cap)) w') :
    if Region.wanted o (yielded ops a.tmps) = true then Oper.wp P o a w K Q else E := by
  subst hr
  exact step_append_any hgd s x t ho base e i z size bytes ht hi hz hsize hby hzs hsz v n xs hs hown ad m c news hx hl hnews h1 hm h63 hbytes hbase _ rfl h

theorem Own.cells {w W : World} {B g n c : Nat} {l : List ByteArray} (k : Own w B (some ⟨g, 0, none⟩) n c l) (kW : Kept w W) (j : Nat) (x : ByteArray) (hx : l[j]? = some x) : W.cell? ⟨g, j, none⟩ = some (.string x) := by
  obtain ⟨g', e, c0, _⟩ := k.at hx
  cases e
  exact kept_cell kW c0
theorem del_news1 {w W : World} {B g n c : Nat} {l : List ByteArray} (k : Own w B (some ⟨g, 0, none⟩) n c l) (kW : Kept w W) (i : Nat) : ∀ (j : Nat) (u : Value), (sc (l.take i))[j]? = some u → W.cell? ((⟨g, 0, none⟩ : Addr).add j) = some u := by
  intro j u hu
  rw [Addr.add_lit, Nat.zero_add]
  unfold sc at hu
  rw [List.getElem?_map, Option.map_eq_some_iff] at hu
  obtain ⟨x, hx, rfl⟩ := hu
  rw [List.getElem?_take] at hx
  split at hx
  · exact k.cells kW j x hx
  · cases hx
theorem del_news2 {w W : World} {B g n c : Nat} {l : List ByteArray} (k : Own w B (some ⟨g, 0, none⟩) n c l) (kW : Kept w W) (i : Nat) : ∀ (j : Nat) (u : Value), (sc (l.drop (i + 1)))[j]? = some u → W.cell? ((⟨g, i + 1, none⟩ : Addr).add j) = some u := by
  intro j u hu
  rw [Addr.add_lit]
  unfold sc at hu
  rw [List.getElem?_map, Option.map_eq_some_iff] at hu
  obtain ⟨x, hx, rfl⟩ := hu
  rw [List.getElem?_drop] at hx
  exact k.cells kW _ x hx
/-- Two appends in a row to a row that was made here. -/
theorem grown_new {w W W' : World} (kW : Kept w W) {g n c : Nat} (hg : w.heap.size ≤ g) (gr : W.grownBy W' (Value.slice (some ⟨g, 0, none⟩) n c).ownBlock) : Kept w W' :=
  ⟨kW.out.grown gr kW.size fun k hk => by simp [Value.ownBlock] at hk; omega⟩

theorem got_erase : ∀ {M : List (ByteArray × ByteArray)} {i : Nat} {x : ByteArray × ByteArray}, M[i]? = some x → (M.map Prod.fst).Nodup → ∀ k, got k (M.eraseIdx i) = if k = x.1 then none else got k M
  | [], _, _, h, _, _ => by simp at h
  | a :: r, 0, x, h, hd, k => by
    simp at h; subst h
    obtain ⟨h1, h2⟩ := List.nodup_cons.1 hd
    show got k r = _
    by_cases e : k = a.1
    · subst e
      rw [if_pos rfl]
      exact got_no fun e he e2 => h1 (by rw [← e2]; exact List.mem_map_of_mem he)
    · rw [if_neg e, show a :: r = (a.1, a.2) :: r from rfl, got_cons_ne (fun e2 => e e2.symm)]
  | a :: r, i + 1, x, h, hd, k => by
    obtain ⟨h1, h2⟩ := List.nodup_cons.1 hd
    have hx : r[i]? = some x := by simpa using h
    have ih := got_erase (M := r) (i := i) (x := x) hx h2 k
    show got k ((a.1, a.2) :: r.eraseIdx i) = if k = x.1 then none else got k ((a.1, a.2) :: r)
    have hax : a.1 ≠ x.1 := fun e => h1 (by rw [e]; exact List.mem_map_of_mem (List.mem_of_getElem? hx))
    by_cases e : a.1 = k
    · subst e
      rw [got_cons_eq, got_cons_eq, if_neg hax]
    · rw [got_cons_ne e, got_cons_ne e, ih]
theorem erase_eq {α : Type} (l : List α) (i : Nat) : l.take i ++ l.drop (i + 1) = l.eraseIdx i := (List.eraseIdx_eq_take_drop_succ l i).symm

theorem Km.bne' {wr : World} {B b i : Nat} {M : List (ByteArray × ByteArray)} {p q : Option Addr} {c d : Nat} (h : Km E wr B b i M p q c d) : (∀ a, p = some a → b ≠ a.block) ∧ (∀ a, q = some a → b ≠ a.block) := by
  have hb := h.at'
  constructor
  · rintro a rfl e
    obtain ⟨_, cs, h2⟩ := h.ks.blk
    rw [← e, hb] at h2
    injection h2 with h2
    injection h2 with _ h3
    exact absurd h3 (by decide)
  · rintro a rfl e
    obtain ⟨_, cs, h2⟩ := h.ts.blk
    rw [← e, hb] at h2
    injection h2 with h2
    injection h2 with _ h3
    exact absurd h3 (by decide)
theorem map_erase {α β : Type} (f : α → β) : ∀ (l : List α) (i : Nat), (l.eraseIdx i).map f = (l.map f).eraseIdx i
  | [], _ => rfl
  | _ :: _, 0 => rfl
  | a :: r, i + 1 => by
    show f a :: (r.eraseIdx i).map f = f a :: (r.map f).eraseIdx i
    rw [map_erase f r i]
/-- The keys are without one, the texts are not yet. -/
structure Dl (E : Nat → Prop) (wr wc : World) (B b i m r : Nat) (M : List (ByteArray × ByteArray)) (q : Option Addr) (d g cap : Nat) : Prop where
  at' : wc.heap[b]? = some (.cells #[.slice (some ⟨g, 0, none⟩) r cap, .slice q m d] 26)
  ks : Own wc B (some ⟨g, 0, none⟩) r cap ((M.map Prod.fst).eraseIdx i)
  ts : Own wc B q m d (M.map Prod.snd)
  vn : Vn E B wr wc
  gge : wr.heap.size ≤ g
theorem Km.del1 {wr w2 : World} {B b i m r : Nat} {M : List (ByteArray × ByteArray)} {p q : Option Addr} {c d g cap : Nat} (h : Km E wr B b m M p q c d) (hB : B ≤ wr.heap.size) (k2 : Kept wr w2)
    (o2 : w2.ownsRow wr.heap.size 9 1 (.slice (some ⟨g, 0, none⟩) r cap) r (sc ((M.map Prod.fst).take i) ++ sc ((M.map Prod.fst).drop (i + 1)))) :
    w2.heap[b]? = some (.cells #[.slice p m c, .slice q m d] 26) ∧ Dl E wr (w2.setCell ⟨b, 0, none⟩ (.slice (some ⟨g, 0, none⟩) r cap)) B b i m r M q d g cap := by
  have hb2 := k2.block h.at'
  have O2 : Own w2 wr.heap.size (some ⟨g, 0, none⟩) r cap ((M.map Prod.fst).eraseIdx i) := ⟨by rw [← erase_eq, sc_append]; exact o2⟩
  obtain ⟨hg0, cs, hg⟩ := O2.blk
  simp only at hg0 hg
  have hbl := (Array.getElem?_eq_some_iff.1 h.at').1
  have oth : ∀ n, n ≠ b → (w2.setCell ⟨b, 0, none⟩ (.slice (some ⟨g, 0, none⟩) r cap)).heap[n]? = w2.heap[n]? := fun n hn => heap_setCell_other _ ⟨b, 0, none⟩ n _ hn
  refine ⟨hb2, ⟨by rw [heap_setCell_same _ b 0 _ _ _ hb2]; rfl, (O2.mono hB).far fun a ha => ?_, (h.ts.kept k2).far fun a ha => oth _ (h.bne'.2 a ha).symm, ?_, hg0⟩⟩
  · injection ha with ha
    subst ha
    exact oth g (by omega)
  · refine ⟨(k2.out.mono hB).setCell (p := ⟨b, 0, none⟩) h.big _, fun n o hn h1 => ?_⟩
    rw [oth n ?_]
    · exact k2.block hn
    · rcases h1 with h1 | h1
      · intro e
        rw [e, h.at'] at hn
        injection hn with hn
        exact (h1 _ _ _ hn.symm).2 rfl
      · exact (h.ex n h1).1
theorem Dl.fin {wr wc w4 : World} {B b i m r : Nat} {M : List (ByteArray × ByteArray)} {p q : Option Addr} {c d g cap g' cap' : Nat} {x : ByteArray × ByteArray} (h : Dl E wr wc B b i m r M q d g cap) (h0 : Km E wr B b m M p q c d) (hB : B ≤ wr.heap.size) (hx : M[i]? = some x) (k4 : Kept wc w4)
    (o4 : w4.ownsRow wc.heap.size 9 1 (.slice (some ⟨g', 0, none⟩) r cap') r (sc ((M.map Prod.snd).take i) ++ sc ((M.map Prod.snd).drop (i + 1)))) :
    w4.heap[b]? = some (.cells #[.slice (some ⟨g, 0, none⟩) r cap, .slice q m d] 26) ∧
    Kv E (w4.setCell ⟨b, 1, none⟩ (.slice (some ⟨g', 0, none⟩) r cap')) B b r (del (fun k => got k M) x.1) ∧ Vn E B wr (w4.setCell ⟨b, 1, none⟩ (.slice (some ⟨g', 0, none⟩) r cap')) := by
  have hb4 := k4.block h.at'
  have O4 : Own w4 wc.heap.size (some ⟨g', 0, none⟩) r cap' ((M.map Prod.snd).eraseIdx i) := ⟨by rw [← erase_eq, sc_append]; exact o4⟩
  obtain ⟨hg0, cs, hg⟩ := O4.blk
  obtain ⟨hk0, cs', hk⟩ := h.ks.blk
  simp only at hg0 hg hk0 hk
  have hbl := (Array.getElem?_eq_some_iff.1 h.at').1
  have hgl := (Array.getElem?_eq_some_iff.1 hk).1
  have oth : ∀ n, n ≠ b → (w4.setCell ⟨b, 1, none⟩ (.slice (some ⟨g', 0, none⟩) r cap')).heap[n]? = w4.heap[n]? := fun n hn => heap_setCell_other _ ⟨b, 1, none⟩ n _ hn
  have hgb : g ≠ b := by
    intro e
    rw [e, h.at'] at hk
    injection hk with hk
    injection hk with _ h3
    exact absurd h3 (by decide)
  have hBc := Nat.le_trans hB h.vn.size
  refine ⟨hb4, ⟨M.eraseIdx i, some ⟨g, 0, none⟩, some ⟨g', 0, none⟩, cap, cap', ⟨?_, ?_, ?_, ?_, h0.big, ?_, ?_⟩, fun k => ?_⟩, ?_⟩
  · rw [heap_setCell_same _ b 1 _ _ _ hb4]; rfl
  · rw [map_erase]
    refine (h.ks.kept k4).far fun a ha => ?_
    injection ha with ha
    subst ha
    exact oth g hgb
  · rw [map_erase]
    refine (O4.mono hBc).far fun a ha => ?_
    injection ha with ha
    subst ha
    exact oth g' (by omega)
  · intro y z hy hz
    injection hy with hy
    injection hz with hz
    subst hy
    subst hz
    show g ≠ g'
    omega
  · rw [map_erase]
    exact h0.nd.eraseIdx i
  · intro x hx
    obtain ⟨x1, x2, x3, x4⟩ := h0.ex x hx
    have v1 := h.vn.size
    have v2 := h.gge
    refine ⟨x1, fun a ha e => ?_, fun a ha e => ?_, Nat.lt_of_lt_of_le x4 (Nat.le_trans v1 ((k4.out.mono hBc).setCell (p := ⟨b, 1, none⟩) h0.big _).size)⟩
    · injection ha with ha
      subst ha
      simp only at e
      omega
    · injection ha with ha
      subst ha
      simp only at e
      omega
  · show del _ x.1 k = _
    rw [got_erase hx h0.nd]; rfl
  · refine h.vn.trans ⟨(k4.out.mono hBc).setCell (p := ⟨b, 1, none⟩) h0.big _, fun n o hn h1 => ?_⟩
    rw [oth n ?_]
    · exact k4.block hn
    · rcases h1 with h1 | h1
      · intro e
        rw [e, h.at'] at hn
        injection hn with hn
        exact (h1 _ _ _ hn.symm).2 rfl
      · exact (h0.ex n h1).1
end Go.Proofs.Ytbpelhfbgjplbaa.Q
