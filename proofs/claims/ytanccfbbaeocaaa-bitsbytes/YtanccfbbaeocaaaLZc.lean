/- The walk of the reference's Put: parts and words of a list, loop one. Conditions: those that each row names. -/
import Derived.BigRegion
import Derived.Deep.CutRange
import Derived.Deep.QuietTactic
import Derived.BigQuiet
import Derived.Deep.RegionWith
import Derived.Test.YtanccfbbaeocaaaLZb
namespace Go.Proofs.Ytanccfbbaeocaaa.Bt
open Go.RowKit Go.Shelf
open N (bs bs_size bs_append Small numL fixL cellsOf numL_ten fixL_length)

theorem gp_keeps (G : List Pt) (n : Nat) : ∀ g ∈ G, ∃ g' ∈ gp G n, g'.1 = g.1 ∧ g.2 ≤ g'.2 := by
  intro g hg
  rcases List.eq_nil_or_concat G with rfl | ⟨H, p, rfl⟩
  · cases hg
  · rw [List.concat_eq_append] at hg ⊢
    unfold gp
    rw [List.getLast?_concat]
    simp only
    split
    · rw [List.dropLast_concat]
      rcases List.mem_append.1 hg with h | h
      · exact ⟨g, List.mem_append.2 (.inl h), rfl, Nat.le_refl _⟩
      · rw [List.mem_singleton] at h; subst h
        exact ⟨(g.1, g.2 + 2 ^ (n % 64)), List.mem_append.2 (.inr (List.mem_singleton.2 rfl)), rfl, Nat.le_add_right _ _⟩
    · exact ⟨g, List.mem_append.2 (.inl hg), rfl, Nat.le_refl _⟩
theorem gp_fold : ∀ (r : List Nat) (G : List Pt), ∀ g ∈ G, ∃ g' ∈ r.foldl gp G, g'.1 = g.1 ∧ g.2 ≤ g'.2
  | [], G, g, hg => ⟨g, hg, rfl, Nat.le_refl _⟩
  | n :: r, G, g, hg => by
    obtain ⟨g1, h1, e1, l1⟩ := gp_keeps G n g hg
    obtain ⟨g2, h2, e2, l2⟩ := gp_fold r (gp G n) g1 h1
    exact ⟨g2, h2, e2.trans e1, Nat.le_trans l1 l2⟩
/-- Parts that may be, in a structure of their own. -/
structure Wb (G : List Pt) : Prop where
  out : ∀ g ∈ G, g.1 < 16384 ∧ g.2 < 18446744073709551616
theorem gp_bound {P : List Pt} (h : Okp P) (i : Nat) : Wb (((nm P).take i).foldl gp []) := ⟨fun g hg => by
  have e : ((nm P).drop i).foldl gp (((nm P).take i).foldl gp []) = P := by rw [← List.foldl_append, List.take_append_drop, gp_parts h]
  obtain ⟨g', h1, h2, h3⟩ := gp_fold ((nm P).drop i) _ g hg
  rw [e] at h1
  have := h.may g' h1
  exact ⟨by omega, by omega⟩⟩
theorem gp_take {P : List Pt} {i y : Nat} (h : (nm P)[i]? = some y) : ((nm P).take (i + 1)).foldl gp [] = gp (((nm P).take i).foldl gp []) y := by
  rw [List.take_add_one, h]; simp
theorem gp_nil (n : Nat) : gp [] n = [] ++ [(n / 64, 2 ^ (n % 64))] := rfl
theorem gp_same {G : List Pt} {a x n : Nat} (h : a = n / 64) : gp (G ++ [(a, x)]) n = G ++ [(a, x + 2 ^ (n % 64))] := by
  unfold gp; rw [List.getLast?_concat]; simp only; rw [if_pos h, List.dropLast_concat]
theorem gp_other {G : List Pt} {a x n : Nat} (h : a ≠ n / 64) : gp (G ++ [(a, x)]) n = (G ++ [(a, x)]) ++ [(n / 64, 2 ^ (n % 64))] := by
  unfold gp; rw [List.getLast?_concat]; simp only; rw [if_neg h]

def uc (ws : List Nat) : List Value := ws.map fun x : Nat => .int .u64 (x : Int)
def fs (G : List Pt) : List Int := G.map fun p => (p.1 : Int)
def sd (G : List Pt) : List Nat := G.map fun p => p.2
theorem uc_len (ws : List Nat) : (uc ws).length = ws.length := by simp [uc]
theorem uc_snoc (ws : List Nat) (x : Nat) : uc (ws ++ [x]) = uc ws ++ [.int .u64 (x : Int)] := by simp [uc]
theorem fs_snoc (G : List Pt) (a x : Nat) : fs (G ++ [(a, x)]) = fs G ++ [(a : Int)] := by simp [fs]
theorem sd_snoc (G : List Pt) (a x : Nat) : sd (G ++ [(a, x)]) = sd G ++ [x] := by simp [sd]
theorem infoU : (Try.prog.info? 40).map (fun i => (i.zero, i.size, i.bytes)) = some (some (.int .u64 0), 1, 8) := by kernel_rfl
/-- What the reference has in memory. -/
structure Pp (w W : World) (p3 : Option Addr) (m c3 : Nat) (p4 : Option Addr) (c4 : Nat) (G : List Pt) : Prop where
  a : Own W w.heap.size 3 1 p3 m c3 (ic (fs G))
  b : Own W w.heap.size 40 1 p4 m c4 (uc (sd G))
  k : Kept w W
theorem Pp.len {w W : World} {p3 : Option Addr} {m c3 : Nat} {p4 : Option Addr} {c4 : Nat} {G : List Pt} (h : Pp w W p3 m c3 p4 c4 G) : G.length = m := by
  have := h.a.rw.len; rw [ic_length] at this; simp [fs] at this; omega
theorem Pp.kept {w W W' : World} {p3 : Option Addr} {m c3 : Nat} {p4 : Option Addr} {c4 : Nat} {G : List Pt} (h : Pp w W p3 m c3 p4 c4 G) (k : Kept W W') : Pp w W' p3 m c3 p4 c4 G := ⟨h.a.kept k, h.b.kept k, h.k.trans k⟩
/-- Two rows of unlike types are two blocks. -/
theorem own_apart {W : World} {B B' e e' sz sz' : Nat} {p p' : Option Addr} {n n' c c' : Nat} {cs cs' : List Value} (h : Own W B e sz p n c cs) (h' : Own W B' e' sz' p' n' c' cs') (hne : e ≠ e') : (Value.slice p n c).ownBlock = none ∨ (Value.slice p n c).ownBlock ≠ (Value.slice p' n' c').ownBlock := by
  rcases hq : (Value.slice p n c).ownBlock with _ | k
  · exact .inl rfl
  · refine .inr fun e1 => ?_
    obtain ⟨_, c1, f1, h1⟩ := own_blk h k hq
    obtain ⟨_, c2, f2, h2⟩ := own_blk h' k e1.symm
    rw [h1] at h2
    injection h2 with h2
    injection h2 with _ h2
    exact hne h2
theorem u_cells (w : World) (t : TypeId) : ∀ j u, [Value.int .u64 0][j]? = some u → (w.alloc (.cells #[.int .u64 0] t)).cell? ((⟨w.heap.size, 0, none⟩ : Addr).add j) = some u := by
  intro j u hj
  rw [Addr.add_lit, Nat.zero_add, cell_of_row _ _ _ _ _ _ (heap_alloc_new w (.cells #[.int .u64 0] t))]
  simpa using hj
theorem u_one : ∀ u ∈ [Value.int .u64 0], u.oneCell' = true := by
  intro u hu; simp at hu; subst hu; rfl
/-- A part more, first of the one row. -/
theorem Pp.moreA {w W w2 : World} {p3 : Option Addr} {m c3 : Nat} {p4 : Option Addr} {c4 : Nat} {G : List Pt} {tmp : Obj} (h : Pp w W p3 m c3 p4 c4 G)
    (g1 : (W.alloc tmp).grownBy w2 (Value.slice p3 m c3).ownBlock) :
    Own w2 w.heap.size 40 1 p4 m c4 (uc (sd G)) ∧ Kept w w2 := by
  have k0 : Kept W (W.alloc tmp) := (Kept.refl W).alloc tmp
  exact ⟨⟨(h.b.kept k0).out.kept g1 (own_apart (h.b.kept k0) (h.a.kept k0) (by decide))⟩, grown_kept w (h.k.trans k0) g1 (Nat.le_refl _) (fun k hk => (own_blk (h.a.kept k0) k hk).1)⟩
theorem Pp.moreB {w w2 w4 : World} {q3 : Option Addr} {m d3 : Nat} {p4 q4 : Option Addr} {c4 d4 : Nat} {G : List Pt} {k : Nat} {tmp : Obj} (k2 : Kept w w2)
    (o1 : w2.ownsRow w.heap.size 3 1 (.slice q3 (m + 1) d3) (m + 1) (ic (fs G) ++ [.int .i64 (k : Nat)])) (hb : Own w2 w.heap.size 40 1 p4 m c4 (uc (sd G)))
    (o2 : w4.ownsRow w.heap.size 40 1 (.slice q4 (m + 1) d4) (m + 1) (uc (sd G) ++ [.int .u64 0])) (g2 : (w2.alloc tmp).grownBy w4 (Value.slice p4 m c4).ownBlock) :
    Pp w w4 q3 (m + 1) d3 q4 d4 (G ++ [(k, 0)]) := by
  have k0 : Kept w2 (w2.alloc tmp) := (Kept.refl w2).alloc tmp
  have oa : Own w2 w.heap.size 3 1 q3 (m + 1) d3 (ic (fs (G ++ [(k, 0)]))) := ⟨by rw [fs_snoc, ic_snoc]; exact o1⟩
  refine ⟨⟨(oa.kept k0).out.kept g2 (own_apart (oa.kept k0) (hb.kept k0) (by decide))⟩, ⟨by rw [sd_snoc, uc_snoc]; exact o2⟩, grown_kept w (k2.trans k0) g2 (Nat.le_refl _) (fun k hk => (own_blk (hb.kept k0) k hk).1)⟩
theorem Pp.ptr {w W : World} {p3 : Option Addr} {m c3 : Nat} {p4 : Option Addr} {c4 : Nat} {G : List Pt} (h : Pp w W p3 m c3 p4 c4 G) (h0 : 0 < m) : (∃ g, p3 = some ⟨g, 0, none⟩) ∧ ∃ g, p4 = some ⟨g, 0, none⟩ := by
  constructor
  · rcases h.a.out.2 with ⟨_, h1⟩ | ⟨g, cap, cur, h1, h2, _⟩
    · omega
    · cases h1; exact ⟨g, rfl⟩
  · rcases h.b.out.2 with ⟨_, h1⟩ | ⟨g, cap, cur, h1, h2, _⟩
    · omega
    · cases h1; exact ⟨g, rfl⟩
theorem Pp.cells {w W : World} {g3 j c3 g4 c4 a x : Nat} {G : List Pt} (h : Pp w W (some ⟨g3, 0, none⟩) (j + 1) c3 (some ⟨g4, 0, none⟩) c4 (G ++ [(a, x)])) :
    G.length = j ∧ W.cell? ⟨g3, j, none⟩ = some (.int .i64 (a : Nat)) ∧ W.cell? ⟨g4, j, none⟩ = some (.int .u64 (x : Nat)) ∧ W.frozen? ⟨g4, j, none⟩ = false := by
  have hl := h.len
  simp at hl
  have e3 : (ic (fs (G ++ [(a, x)])))[j]? = some (.int .i64 (a : Nat)) := by
    rw [fs_snoc, ic_snoc, ← hl, List.getElem?_append_right (by simp [ic, fs])]; simp [ic, fs]
  have e4 : (uc (sd (G ++ [(a, x)])))[j]? = some (.int .u64 (x : Nat)) := by
    rw [sd_snoc, uc_snoc, ← hl, List.getElem?_append_right (by simp [uc, sd])]; simp [uc, sd]
  refine ⟨hl, ?_, ?_, h.b.out.frozenAt _⟩
  · rcases h.a.rw.out with e | ⟨b, o, e, f⟩
    · exact absurd e (by omega)
    · cases e; have := f _ _ e3; rwa [Nat.zero_add] at this
  · rcases h.b.rw.out with e | ⟨b, o, e, f⟩
    · exact absurd e (by omega)
    · cases e; have := f _ _ e4; rwa [Nat.zero_add] at this
theorem Pp.put {w W : World} {g3 j c3 g4 c4 a x : Nat} {G : List Pt} (h : Pp w W (some ⟨g3, 0, none⟩) (j + 1) c3 (some ⟨g4, 0, none⟩) c4 (G ++ [(a, x)])) (x' : Nat) :
    Pp w (W.setCell ⟨g4, j, none⟩ (.int .u64 (x' : Nat))) (some ⟨g3, 0, none⟩) (j + 1) c3 (some ⟨g4, 0, none⟩) c4 (G ++ [(a, x')]) := by
  have hl := h.cells.1
  obtain ⟨r1, g1⟩ := h.b.out.stored j (.int .u64 (x' : Nat))
  have ha := own_apart h.a h.b (by decide)
  refine ⟨⟨?_⟩, ⟨?_⟩, grown_kept w h.k g1 (Nat.le_refl _) (fun k hk => (own_blk h.b k (by simpa [Value.ownBlock] using hk)).1)⟩
  · rw [show fs (G ++ [(a, x')]) = fs (G ++ [(a, x)]) by rw [fs_snoc, fs_snoc]]
    exact h.a.out.kept g1 (by simpa [Value.ownBlock] using ha)
  · have e : (uc (sd (G ++ [(a, x)]))).set j (.int .u64 (x' : Nat)) = uc (sd (G ++ [(a, x')])) := by
      rw [sd_snoc, uc_snoc, sd_snoc, uc_snoc, List.set_append_right _ _ (by simp [uc, sd]; omega)]
      have : j - (uc (sd G)).length = 0 := by simp [uc, sd]; omega
      rw [this]; rfl
    rw [← e]; exact r1
end Go.Proofs.Ytanccfbbaeocaaa.Bt
