/- The walk of made. Conditions: what came in has numbers of 64 bits. -/
import Derived.Test.YtgdafolidifdoaaDoorILitc
import Derived.Test.YtgdafolidifdoaaDoorIYb
import Derived.Test.YtgdafolidifdoaaDoorIZc
import Derived.Test.YtgdafolidifdoaaDoorIYh
import Derived.Deep.CutRange
namespace Go.Proofs.YtgdafolidifdoaaDoor.Tp
open Go.ChangeShapes Go.WideShapes Go.ChangeAt Go.RowKit

theorem infoD : (Tryd.prog.info? 44).map (fun i => (i.zero, i.size, i.bytes)) = some (some (.agg #[.string ⟨#[]⟩, .int .i64 0, .int .i64 0]), 3, 32) := by kernel_rfl
theorem infoF : (Tryd.prog.info? 48).map (fun i => (i.zero, i.size, i.bytes)) = some (some (.agg #[.string ⟨#[]⟩, .int .i64 0, .slice none 0 0, .int .i64 0, .slice none 0 0, .slice none 0 0]), 6, 104) := by kernel_rfl
theorem sizeTree : (Tryd.prog.info? 26).map (·.size) = some 3 := by kernel_rfl
theorem dcc_one (d : Dc) : ∀ u ∈ dcc d, u.oneCell' = true := by
  intro u hu
  simp [dcc] at hu
  rcases hu with rfl | rfl | rfl <;> rfl
theorem at2 (w : World) (o o' : Obj) : ((w.alloc o).alloc o').heap[w.heap.size]? = some o := ((Kept.refl _).alloc o').block (alloc_at w o)
theorem at2' (w : World) (o o' : Obj) : ((w.alloc o).alloc o').heap[w.heap.size + 1]? = some o' := by
  have h := alloc_at (w.alloc o) o'
  rwa [size_alloc] at h
theorem news_at {W : World} {b : Nat} {l : List Value} {t : TypeId} (h : W.heap[b]? = some (.cells l.toArray t)) : ∀ (j : Nat) (u : Value), l[j]? = some u → W.cell? ((⟨b, 0, none⟩ : Addr).add j) = some u := fun j u hu => by
  rw [Addr.add_lit, Nat.zero_add, cell_of_row _ _ j _ _ _ h, ← Array.getElem?_toList]
  exact hu
theorem Sy.size_le {w wr : World} {L : Nat → Nat → Prop} {pg0 pf0 : Option Addr} {A B C : Value} {d : Dc} {pg : Option Addr} {ng cg : Nat} {gs : List Dc} {pf : Option Addr} {nf cf : Nat} {fs : List Dc} {W W' : World} (h : Sy w wr L pg0 pf0 A B C d pg ng cg gs pf nf cf fs W) (k : Kept W W') : w.heap.size + 2 ≤ W'.heap.size := by
  have h1 := (Array.getElem?_eq_some_iff.1 h.tr).1
  have h2 := k.size
  omega
theorem Sy.nb {w wr : World} {L : Nat → Nat → Prop} {pg0 pf0 : Option Addr} {A B C : Value} {d : Dc} {pg : Option Addr} {ng cg : Nat} {gs : List Dc} {pf : Option Addr} {nf cf : Nat} {fs : List Dc} {W W' W1 : World} (h : Sy w wr L pg0 pf0 A B C d pg ng cg gs pf nf cf fs W) {m : Nat} (ap : Ap W' W1 (pg.map Addr.block) m) : ∀ (k : Nat) (o : Obj), W.heap.size ≤ k → W'.heap[k]? = some o → W1.heap[k]? = some o :=
  fun _ _ hk ho => ap.other ho (fun e => by have := (own_row h.og e).2.1; omega)
theorem Sy.cells {w wr : World} {L : Nat → Nat → Prop} {pg0 pf0 : Option Addr} {A B C : Value} {d : Dc} {pg : Option Addr} {ng cg : Nat} {gs : List Dc} {pf : Option Addr} {nf cf : Nat} {fs : List Dc} {W : World} (h : Sy w wr L pg0 pf0 A B C d pg ng cg gs pf nf cf fs W) {W' : World} (k : Kept W W') :
    (W'.cell? ⟨w.heap.size + 1, 0, none⟩ = some A ∧ W'.frozen? ⟨w.heap.size + 1, 0, none⟩ = false) ∧ (W'.cell? ⟨w.heap.size + 1, 1, none⟩ = some B ∧ W'.frozen? ⟨w.heap.size + 1, 1, none⟩ = false) ∧
    (W'.cell? ⟨wr.heap.size, 0, none⟩ = some (.string d.n) ∧ W'.cell? ⟨wr.heap.size, 1, none⟩ = some (.int .i64 d.t) ∧ W'.cell? ⟨wr.heap.size, 2, none⟩ = some (.int .i64 d.pos)) ∧
    (∀ v, ((W'.setCell ⟨w.heap.size + 1, 0, none⟩ v).cell? ⟨w.heap.size + 1, 1, none⟩ = some B ∧ (W'.setCell ⟨w.heap.size + 1, 0, none⟩ v).frozen? ⟨w.heap.size + 1, 1, none⟩ = false) ∧ ((W'.setCell ⟨w.heap.size + 1, 0, none⟩ v).cell? ⟨wr.heap.size, 0, none⟩ = some (.string d.n) ∧ (W'.setCell ⟨w.heap.size + 1, 0, none⟩ v).cell? ⟨wr.heap.size, 1, none⟩ = some (.int .i64 d.t) ∧ (W'.setCell ⟨w.heap.size + 1, 0, none⟩ v).cell? ⟨wr.heap.size, 2, none⟩ = some (.int .i64 d.pos)) ∧
      ∀ v', ((W'.setCell ⟨w.heap.size + 1, 0, none⟩ v).setCell ⟨w.heap.size + 1, 1, none⟩ v').cell? ⟨wr.heap.size, 0, none⟩ = some (.string d.n) ∧ ((W'.setCell ⟨w.heap.size + 1, 0, none⟩ v).setCell ⟨w.heap.size + 1, 1, none⟩ v').cell? ⟨wr.heap.size, 1, none⟩ = some (.int .i64 d.t) ∧ ((W'.setCell ⟨w.heap.size + 1, 0, none⟩ v).setCell ⟨w.heap.size + 1, 1, none⟩ v').cell? ⟨wr.heap.size, 2, none⟩ = some (.int .i64 d.pos)) := by
  have ht := k.block h.tr
  have hd := k.block h.dd
  have hne : wr.heap.size ≠ w.heap.size + 1 := by have := h.hT; omega
  have dd : ∀ {V : World}, V.heap[wr.heap.size]? = some (.cells (dcc d).toArray 44) → V.cell? ⟨wr.heap.size, 0, none⟩ = some (.string d.n) ∧ V.cell? ⟨wr.heap.size, 1, none⟩ = some (.int .i64 d.t) ∧ V.cell? ⟨wr.heap.size, 2, none⟩ = some (.int .i64 d.pos) := fun hv => ⟨by rw [cell_of_row _ _ 0 _ _ _ hv]; rfl, by rw [cell_of_row _ _ 1 _ _ _ hv]; rfl, by rw [cell_of_row _ _ 2 _ _ _ hv]; rfl⟩
  have hs1 : ∀ v, (W'.setCell ⟨w.heap.size + 1, 0, none⟩ v).heap[wr.heap.size]? = some (.cells (dcc d).toArray 44) := fun v => by rw [heap_setCell_other _ ⟨w.heap.size + 1, 0, none⟩ _ _ hne]; exact hd
  refine ⟨⟨by rw [cell_of_row _ _ 0 _ _ _ ht]; rfl, frozen_of_row _ _ 0 _ _ ht⟩, ⟨by rw [cell_of_row _ _ 1 _ _ _ ht]; rfl, frozen_of_row _ _ 1 _ _ ht⟩, dd hd, fun v => ⟨?_, dd (hs1 v), fun v' => dd ?_⟩⟩
  · have h3 : (W'.setCell ⟨w.heap.size + 1, 0, none⟩ v).heap[w.heap.size + 1]? = some (.cells #[v, B, C] 26) := by rw [heap_setCell_same _ _ 0 _ _ _ ht]; rfl
    exact ⟨by rw [cell_of_row _ _ 1 _ _ _ h3]; rfl, frozen_of_row _ _ 1 _ _ h3⟩
  · rw [heap_setCell_other _ ⟨w.heap.size + 1, 1, none⟩ _ _ hne]; exact hs1 v
/-- What the call of stmts gives. -/
def R7 (wb w2 : World) (q : Option Addr) (m c : Nat) (s : Sts) : Prop := ∃ wc, Kept wb wc ∧ Kept wc w2 ∧ (∀ V, Kp (wc.heap.size ≤ ·) w2 V → Sl V q m c s) ∧ s.Ok ∧ s.dp ≤ 2 + 1 ∧ s.sz ≤ 10 * Cst 2
/-- What made hands back. -/
def Mp (w w' : World) (pg pf pn : Option Addr) (i cg cf cn : Nat) : Prop := ∃ gs fs fl, (∀ V : World, (∀ k o, w.heap.size + 2 ≤ k → w'.heap[k]? = some o → V.heap[k]? = some o) → Dl V pg i cg gs ∧ Dl V pf i cf fs ∧ Fl V pn i cn fl) ∧ i ≤ 4 ∧ (∀ x ∈ gs, x.n.size ≤ 6 ∧ 0 ≤ x.t ∧ x.t ≤ 3) ∧ (∀ x ∈ fs, x.n.size ≤ 6 ∧ 0 ≤ x.t ∧ x.t ≤ 3) ∧ (∀ f ∈ fl, Fok f ∧ (∀ d ∈ f.ps, I64 d.t) ∧ ∀ d ∈ f.vs, I64 d.t) ∧ Kept w w'

theorem r7_mk {wb wc w2 : World} {q : Option Addr} {m c : Nat} {s : Sts} (k1 : Kept wb wc) (k2 : Kept wc w2) (h1 : ∀ V, Kp (wc.heap.size ≤ ·) w2 V → Sl V q m c s) (h2 : s.Ok) (h3 : s.dp ≤ 2 + 1) (h4 : s.sz ≤ 10 * Cst 2) : R7 wb w2 q m c s := ⟨wc, k1, k2, h1, h2, h3, h4⟩
theorem fn_one (x : ByteArray) (u : Int) (p : Option Addr) (n c : Nat) (v : Int) (q : Option Addr) (m d : Nat) (r : Option Addr) (j e : Nat) : ∀ z ∈ [Value.string x, .int .i64 u, .slice p n c, .int .i64 v, .slice q m d, .slice r j e], z.oneCell' = true := by
  intro z hz
  simp at hz
  rcases hz with rfl | rfl | rfl | rfl | rfl | rfl <;> rfl
theorem Md.size_le {w : World} {m i : Nat} {pg : Option Addr} {cg : Nat} {gs : List Dc} {pf : Option Addr} {cf : Nat} {fs : List Dc} {pn : Option Addr} {cn : Nat} {fl : List Fc} {cs : List Value} {W W' : World} (h : Md w m i pg cg gs pf cf fs pn cn fl cs W) (k : Kept W W') : w.heap.size + 2 ≤ W'.heap.size := Nat.le_trans h.size k.size
theorem Md.fr {w : World} {m i : Nat} {pg : Option Addr} {cg : Nat} {gs : List Dc} {pf : Option Addr} {cf : Nat} {fs : List Dc} {pn : Option Addr} {cn : Nat} {fl : List Fc} {cs : List Value} {wb W w5 : World} (h : Md w m i pg cg gs pf cf fs pn cn fl cs wb) (k : Kept wb W) {u : Nat} (ap : Ap W w5 (pn.map Addr.block) u) (j : Nat) : w5.frozen? ⟨w.heap.size + 1, j, none⟩ = false :=
  frozen_of_row _ _ _ _ _ (ap.other (k.block h.tr) (fun e => by have := (own_row h.rn e).1; omega))
theorem s7_at {w wb W w5 : World} {pn : Option Addr} {i cn u b o1 o2 : Nat} {cs : List Value} {v1 v2 v3 v4 v5 : Value} (hb : b < w.heap.size) (rn : wb.ownsRow (w.heap.size + 2) 48 6 (.slice pn i cn) i cs) (_k : Kept wb W) (h : W.cell? ⟨b, o1, none⟩ = some v1 ∧ W.cell? ⟨b, o2, none⟩ = some v2 ∧ W.cell? ⟨w.heap.size + 1, 0, none⟩ = some v3 ∧ W.cell? ⟨w.heap.size + 1, 1, none⟩ = some v4 ∧ W.cell? ⟨w.heap.size + 1, 2, none⟩ = some v5) (ap : Ap W w5 (pn.map Addr.block) u) :
    w5.cell? ⟨b, o1, none⟩ = some v1 ∧ w5.cell? ⟨b, o2, none⟩ = some v2 ∧ w5.cell? ⟨w.heap.size + 1, 0, none⟩ = some v3 ∧ w5.cell? ⟨w.heap.size + 1, 1, none⟩ = some v4 ∧ w5.cell? ⟨w.heap.size + 1, 2, none⟩ = some v5 := by
  have hr : ∀ k, k < w.heap.size + 2 → some k ≠ pn.map Addr.block := fun k hk e => by have := (own_row rn e).1; omega
  exact ⟨ap.grown.cell h.1 (hr b (by omega)), ap.grown.cell h.2.1 (hr b (by omega)), ap.grown.cell h.2.2.1 (hr (w.heap.size + 1) (by omega)), ap.grown.cell h.2.2.2.1 (hr (w.heap.size + 1) (by omega)), ap.grown.cell h.2.2.2.2 (hr (w.heap.size + 1) (by omega))⟩
theorem Md.round {w wb w2 W w5 : World} {i : Nat} {pg : Option Addr} {cg : Nat} {gs : List Dc} {pf : Option Addr} {cf : Nat} {fs : List Dc} {pn : Option Addr} {cn : Nat} {fl : List Fc} {cs : List Value} (h : Md w (i + 1) i pg cg gs pf cf fs pn cn fl cs wb) {pb : Option Addr} {nb cb : Nat} {s : Sts} (r : R7 wb w2 pb nb cb s) (hk : Kept wb W) (hk2 : Kept w2 W)
    {fn : ByteArray} {ret : Int} (hn : fn.size ≤ 6) (hret : 0 ≤ ret ∧ ret ≤ 3) (hi : i < 4) {g cn' : Nat}
    (o5 : w5.ownsRow (w.heap.size + 2) 48 6 (.slice (some ⟨g, 0, none⟩) (i + 1) cn') (i + 1) (cs ++ [.string fn, .int .i64 0, .slice pg (i + 1) cg, .int .i64 ret, .slice pf i cf, .slice pb nb cb])) (ap : Ap W w5 (pn.map Addr.block) (i * 6)) (l : pn.map Addr.block = some g ∨ W.heap.size ≤ g) :
    Md w (i + 1) (i + 1) pg cg gs pf cf fs (some ⟨g, 0, none⟩) cn' (fl ++ [⟨fn, 0, gs, ret, fs.take i, s⟩]) (cs ++ [.string fn, .int .i64 0, .slice pg (i + 1) cg, .int .i64 ret, .slice pf i cf, .slice pb nb cb]) (w5.setCell ⟨w.heap.size + 1, 2, none⟩ (.slice (some ⟨g, 0, none⟩) (i + 1) cn')) := by
  obtain ⟨wc, k1, k2, hs, ok, dp, sz⟩ := r
  have hg := h.lg
  have hf := h.lf
  have i64 : ∀ {t : Int}, 0 ≤ t ∧ t ≤ 3 → I64 t := fun ht => ⟨by omega, by omega⟩
  refine h.seven (Nat.le_succ i) hk k1.size hk2 hs ⟨⟨hn, ⟨by show gs.length ≤ 4; omega, fun x hx => (h.og x hx).1⟩, hret, ⟨by show (fs.take i).length ≤ 4; rw [List.length_take]; omega, fun x hx => (h.of x (List.mem_of_mem_take hx)).1⟩, ok, by show s.dp ≤ 5; omega, Nat.le_trans sz (by decide)⟩, fun x hx => i64 (h.og x hx).2, fun x hx => i64 (h.of x (List.mem_of_mem_take hx)).2⟩ o5 ap l
theorem set_other3 {W : World} {b g : Nat} (hne : g ≠ b) (v0 v1 v2 : Value) : (((W.setCell ⟨b, 0, none⟩ v0).setCell ⟨b, 1, none⟩ v1).setCell ⟨b, 2, none⟩ v2).heap[g]? = W.heap[g]? := by
  repeat rw [heap_setCell_other _ _ _ _ hne]
theorem put3 {W : World} {b : Nat} {t : TypeId} {o0 o1 o2 : Value} (h0 : W.heap[b]? = some (.cells #[o0, o1, o2] t)) (v0 v1 v2 : Value) :
    (W.cell? ⟨b, 0, none⟩ = some o0 ∧ W.frozen? ⟨b, 0, none⟩ = false) ∧ ((W.setCell ⟨b, 0, none⟩ v0).cell? ⟨b, 1, none⟩ = some o1 ∧ (W.setCell ⟨b, 0, none⟩ v0).frozen? ⟨b, 1, none⟩ = false) ∧ (((W.setCell ⟨b, 0, none⟩ v0).setCell ⟨b, 1, none⟩ v1).cell? ⟨b, 2, none⟩ = some o2 ∧ ((W.setCell ⟨b, 0, none⟩ v0).setCell ⟨b, 1, none⟩ v1).frozen? ⟨b, 2, none⟩ = false) ∧ (((W.setCell ⟨b, 0, none⟩ v0).setCell ⟨b, 1, none⟩ v1).setCell ⟨b, 2, none⟩ v2).heap[b]? = some (.cells #[v0, v1, v2] t) := by
  have h1 : (W.setCell ⟨b, 0, none⟩ v0).heap[b]? = some (.cells #[v0, o1, o2] t) := by rw [heap_setCell_same _ b 0 _ _ _ h0]; rfl
  have h2 : ((W.setCell ⟨b, 0, none⟩ v0).setCell ⟨b, 1, none⟩ v1).heap[b]? = some (.cells #[v0, v1, o2] t) := by rw [heap_setCell_same _ b 1 _ _ _ h1]; rfl
  have h3 : (((W.setCell ⟨b, 0, none⟩ v0).setCell ⟨b, 1, none⟩ v1).setCell ⟨b, 2, none⟩ v2).heap[b]? = some (.cells #[v0, v1, v2] t) := by rw [heap_setCell_same _ b 2 _ _ _ h2]; rfl
  exact ⟨⟨by rw [cell_of_row _ b 0 _ _ _ h0]; rfl, frozen_of_row _ b 0 _ _ h0⟩, ⟨by rw [cell_of_row _ b 1 _ _ _ h1]; rfl, frozen_of_row _ b 1 _ _ h1⟩, ⟨by rw [cell_of_row _ b 2 _ _ _ h2]; rfl, frozen_of_row _ b 2 _ _ h2⟩, h3⟩
set_option maxRecDepth 100000 in
set_option maxHeartbeats 16000000 in
theorem made_prog {w : World} {p : Option Addr} {n c : Nat} {l : List Ev} (hEs : Es w p n c l) :
    Calls Tryd.prog 5 #[.slice p n c] w fun x w' => ∃ pg pf pn i cg cf cn, x = .returned (.agg #[.slice pg i cg, .slice pf i cf, .slice pn i cn]) ∧ Mp w w' pg pf pn i cg cf cn := by
  obtain ⟨i0, hi0, hz0, hz1, hz2⟩ := info_parts infoD
  obtain ⟨j0, hj0, hy0, hy1, hy2⟩ := info_parts infoF
  have HE : Hid (Es w p n c l) := hEs
  have hle := hEs.le
  have hcap := hEs.cap
  have hc9 : c ≤ 9223372036854775807 := by unfold maxLen at hcap; omega
  have HS0 : Hid _ := Md.start w
  clear hEs hcap
  go_enter Tryd.func5, Tryd.ntmps5
  go_wp2
  refine wp_loop_ghost_k (fun g' a wx => ∃ tm : Array Value, a = ⟨tm, []⟩ ∧ tm.size = 72 ∧ ∃ (i : Nat) (pg : Option Addr) (cg : Nat) (gs : List Dc) (pf : Option Addr) (cf : Nat) (fs : List Dc) (pn : Option Addr) (cn : Nat) (fl : List Fc) (cs : List Value), tm.getD 0 undef = .slice p n c ∧ tm.getD 2 undef = .pointer (some ⟨w.heap.size, 0, none⟩) ∧ tm.getD 3 undef = .pointer (some ⟨w.heap.size + 1, 0, none⟩) ∧ tm.getD 4 undef = .int .i64 (i : Nat) ∧ i + g' = 4 ∧ i ≤ n ∧ Md w i i pg cg gs pf cf fs pn cn fl cs wx) 4 ?_ ?_
  · exact ⟨_, rfl, rfl, 0, none, 0, [], none, 0, [], none, 0, [], [], rfl, rfl, rfl, rfl, rfl, Nat.zero_le _, HS0.out⟩
  · intro gk ac wr hI
    obtain ⟨tm, rfl, hsz, i, pg, cg, gs, pf, cf, fs, pn, cn, fl, cs, h0, h2, h3, h4, hg, hin, hM⟩ := hI
    intro J K hJ hK
    revert tm
    refine lit72 ?_
    intro u0 u1 u2 u3 u4 u5 u6 u7 u8 u9 u10 u11 u12 u13 u14 u15 u16 u17 u18 u19 u20 u21 u22 u23 u24 u25 u26 u27 u28 u29 u30 u31 u32 u33 u34 u35 u36 u37 u38 u39 u40 u41 u42 u43 u44 u45 u46 u47 u48 u49 u50 u51 u52 u53 u54 u55 u56 u57 u58 u59 u60 u61 u62 u63 u64 u65 u66 u67 u68 u69 u70 u71 h0 h2 h3 h4
    have e0 : u0 = .slice p n c := h0
    have e2 : u2 = .pointer (some ⟨w.heap.size, 0, none⟩) := h2
    have e3 : u3 = .pointer (some ⟨w.heap.size + 1, 0, none⟩) := h3
    have e4 : u4 = .int .i64 (i : Nat) := h4
    clear h0 h2 h3 h4
    subst e0 e2 e3 e4
    have HM : Hid _ := hM
    by_cases hb : i < n ∧ i < 4
    · obtain ⟨hb1, hb2⟩ := hb
      have hlt1 : (i : Int) < (n : Nat) := by omega
      have hlt2 : (i : Int) < 4 := by omega
      obtain ⟨g', rfl⟩ : ∃ g', gk = g' + 1 := ⟨gk - 1, by omega⟩
      obtain ⟨e, he⟩ : ∃ e, l[i]? = some e := ⟨_, List.getElem?_eq_getElem (by rw [HE.out.len]; exact hb1)⟩
      have hok := HE.out.ok i e he
      obtain ⟨b, o, rfl, hcell⟩ := (HE.out.kept hM.low).out.resolve_left (by omega)
      have HCL : Hid (∀ W, Kept wr W → ∀ (q : Nat) (v : Value), (ev e)[q]? = some v → W.cell? ⟨b, o + i * 6 + q, none⟩ = some v) := fun W hW q v hq => hW.cell (hcell i e he q v hq)
      have HOK : Hid (Okv e) := hok
      have HCW : Hid (∀ (q : Nat) (v : Value), (ev e)[q]? = some v → w.cell? ⟨b, o + i * 6 + q, none⟩ = some v) := by
        obtain ⟨b2, o2, e2, hc2⟩ := HE.out.out.resolve_left (by omega)
        injection e2 with e2
        injection e2 with e3 e4 _
        subst e3 e4
        exact fun q v hq => hc2 i e he q v hq
      have HBL : Hid (∀ W, Kept w W → Es W (some ⟨b, o, none⟩) n c l) := fun W hW => HE.out.kept hW
      have hA : Hid (∀ W, Calls Tryd.prog 18 #[.string e.a] W fun x w' => x = .returned (.string (sho e.a)) ∧ w' = W) := fun W => short_walk e.a hok.a W
      have hB : Hid (∀ W, Calls Tryd.prog 18 #[.string e.b] W fun x w' => x = .returned (.string (sho e.b)) ∧ w' = W) := fun W => short_walk e.b hok.b W
      have hkm : bits .and .i64 e.k 3 = ((lw 2 e.k : Nat) : Int) := lw_bits 2 3 (by decide) (by decide) e.k
      have hom : bits .and .i64 e.op 3 = ((lw 2 e.op : Nat) : Int) := lw_bits 2 3 (by decide) (by decide) e.op
      have hlk := lw_lt 2 e.k
      have hlo := lw_lt 2 e.op
      have HTL : Hid (∀ W, (Instr.sliceAt 22 (.slice (some ⟨b, o, none⟩) n c) (some (.int .i64 (i : Nat))) none none).run Tryd.prog W = .ok (.slice (some ⟨b, o + i * 6, none⟩) (n - i) (c - i)) W) := fun W => by
        obtain ⟨q, h1, h2⟩ := tail_slice b o n c i (by omega) W
        rw [h1, h2 (by omega)]
      have HET : Hid (∀ W, Kept w W → Es W (some ⟨b, o + i * 6, none⟩) (n - i) (c - i) (l.drop i)) := fun W hW => (HE.out.kept hW).tail i (by omega) (fun _ => rfl)
      obtain ⟨k, op, nn, a, bb, m⟩ := e
      unfold ev at HCL HCW
      dsimp only at *
      have HSA : Hid (∀ W, Kept wr W → W.cell? ⟨b, o + i * 6 + 3, none⟩ = some (.string a) ∧ W.cell? ⟨b, o + i * 6, none⟩ = some (.int .i64 k)) := fun W hW => ⟨HCL.out W hW 3 _ rfl, HCL.out W hW 0 _ rfl⟩
      clear hcell he hok hM hb1 hle
      go_upto_region 5 with fail
      obtain ⟨Qb, hQ⟩ : ∃ Qb : Exit → Act → World → Prop, Qb = (fun ex1 fr1 w1 => ex1 = .normal ∧ ∃ (tm : Array Value), fr1 = ⟨tm, []⟩ ∧ tm.size = 72 ∧ tm.getD 0 undef = .slice (some ⟨b, o, none⟩) n c ∧ tm.getD 2 undef = .pointer (some ⟨w.heap.size, 0, none⟩) ∧ tm.getD 3 undef = .pointer (some ⟨w.heap.size + 1, 0, none⟩) ∧ tm.getD 4 undef = .int .i64 (i : Nat) ∧ tm.getD 5 undef = .pointer (some ⟨wr.heap.size, 0, none⟩) ∧ Kept wr w1 ∧ w1.heap[wr.heap.size]? = some (.cells (dcc (⟨sho a, (lw 2 k : Nat), (i : Nat)⟩ : Dc)).toArray 44)) := ⟨_, rfl⟩
      have HQ : Hid _ := hQ
      clear hQ
      refine wp_mono (show Code.wp _ _ Qb _ _ from ?_) ?_
      · clear hJ hK
        go_region_held3 (fun W => W.cell? ⟨b, o + i * 6 + 3, none⟩ = some (.string a) ∧ W.cell? ⟨b, o + i * 6, none⟩ = some (.int .i64 k)) (exact HSA.out _ (by (repeat (first | (with_reducible refine Kept.setCell ?_ (Kept.size ?_) _) | assumption | exact Kept.refl _ | apply Kept.drew | apply Kept.alloc)))) (first
          | (go_at_call 18; (with_reducible refine (hA.out _).mono ?_); rintro e w1 ⟨rfl, rfl⟩)
          | fail)
        all_goals rw [HQ.out]
        all_goals exact ⟨rfl, _, rfl, rfl, rfl, rfl, rfl, rfl, rfl, (by (repeat (first | (with_reducible refine Kept.setCell ?_ (Kept.size ?_) _) | assumption | exact Kept.refl _ | apply Kept.drew | apply Kept.alloc))), alloc_at _ _⟩
      · rw [HQ.out]
        rintro ex1 fr1 wa ⟨rfl, tm, rfl, hsz5, s0, s2, s3, s4, s5, hk5, hd5⟩
        clear HQ Qb
        have HS : Hid (Sy w wr (Lg pg pf i) pg pf (.slice pg i cg) (.slice pf i cf) (.slice pn i cn) (⟨sho a, (lw 2 k : Nat), (i : Nat)⟩ : Dc) pg i cg gs pf i cf fs wa) := HM.out.sy hk5 hd5
        have HKA : Hid (Kept wr wa) := hk5
        clear hk5 hd5
        revert tm
        refine lit72 ?_
        intro v0 v1 v2 v3 v4 v5 v6 v7 v8 v9 v10 v11 v12 v13 v14 v15 v16 v17 v18 v19 v20 v21 v22 v23 v24 v25 v26 v27 v28 v29 v30 v31 v32 v33 v34 v35 v36 v37 v38 v39 v40 v41 v42 v43 v44 v45 v46 v47 v48 v49 v50 v51 v52 v53 v54 v55 v56 v57 v58 v59 v60 v61 v62 v63 v64 v65 v66 v67 v68 v69 v70 v71 s0 s2 s3 s4 s5
        have e0 : v0 = .slice (some ⟨b, o, none⟩) n c := s0
        have e2 : v2 = .pointer (some ⟨w.heap.size, 0, none⟩) := s2
        have e3 : v3 = .pointer (some ⟨w.heap.size + 1, 0, none⟩) := s3
        have e4 : v4 = .int .i64 (i : Nat) := s4
        have e5 : v5 = .pointer (some ⟨wr.heap.size, 0, none⟩) := s5
        clear s0 s2 s3 s4 s5
        subst e0 e2 e3 e4 e5
        apply_assumption
        refine wp_seq ?_
        obtain ⟨Qb, hQ⟩ : ∃ Qb : Exit → Act → World → Prop, Qb = (fun ex1 fr1 w1 => ex1 = .normal ∧ ∃ (tm : Array Value) (gg cgg gf cgf : Nat), fr1 = ⟨tm, []⟩ ∧ tm.size = 72 ∧ tm.getD 0 undef = .slice (some ⟨b, o, none⟩) n c ∧ tm.getD 2 undef = .pointer (some ⟨w.heap.size, 0, none⟩) ∧ tm.getD 3 undef = .pointer (some ⟨w.heap.size + 1, 0, none⟩) ∧ tm.getD 4 undef = .int .i64 (i : Nat) ∧ Md w (i + 1) i (some ⟨gg, 0, none⟩) cgg (gs ++ [(⟨sho a, (lw 2 k : Nat), (i : Nat)⟩ : Dc)]) (some ⟨gf, 0, none⟩) cgf (fs ++ [(⟨sho a, (lw 2 k : Nat), (i : Nat)⟩ : Dc)]) pn cn fl cs w1) := ⟨_, rfl⟩
        have HQ : Hid _ := hQ
        clear hQ
        refine wp_mono (show Code.wp _ _ Qb _ _ from ?_) ?_
        · clear hJ hK hA hB HTL HET HCL HSA HBL
          have HSD : Hid (∀ W, Kept wa W → W.cell? ⟨wr.heap.size, 0, none⟩ = some (.string (sho a)) ∧ W.cell? ⟨wr.heap.size, 1, none⟩ = some (.int .i64 (lw 2 k : Nat)) ∧ W.cell? ⟨wr.heap.size, 2, none⟩ = some (.int .i64 (i : Nat)) ∧ W.cell? ⟨w.heap.size + 1, 0, none⟩ = some (.slice pg i cg) ∧ W.cell? ⟨w.heap.size + 1, 1, none⟩ = some (.slice pf i cf)) := fun W hW => (fun h => ⟨h.2.2.1.1, h.2.2.1.2.1, h.2.2.1.2.2, h.1.1, h.2.1.1⟩) (HS.out.cells hW)
          have HL1 : Hid (∀ k j, some k = pg.map Addr.block → Lg pg pf i k j → j < i * 3) := fun k j h hL => hL (.inl h)
          have HL2 : Hid (∀ k j, some k = pf.map Addr.block → Lg pg pf i k j → j < i * 3) := fun k j h hL => hL (.inr h)
          refine wp_region_noPanic ?_
          refine wp_region_head (by kernel_rfl) (fun W => W.cell? ⟨wr.heap.size, 0, none⟩ = some (.string (sho a)) ∧ W.cell? ⟨wr.heap.size, 1, none⟩ = some (.int .i64 (lw 2 k : Nat)) ∧ W.cell? ⟨wr.heap.size, 2, none⟩ = some (.int .i64 (i : Nat)) ∧ W.cell? ⟨w.heap.size + 1, 0, none⟩ = some (.slice pg i cg) ∧ W.cell? ⟨w.heap.size + 1, 1, none⟩ = some (.slice pf i cf)) 11 [_, _, _] #[true, true, true, true, true, true, true, true, true, true, true, false, false, false] (by kernel_rfl) rfl ?_
          have h0 := HSD.out _ (Kept.refl wa).drew
          refine wpHead_take (i := 0) (g := 3) (oi := _) (rs := _) (v := ?v1) rfl (by kernel_rfl) (fun _ _ _ h => h) (Or.inl ⟨by rfl, ?hy1⟩) h0 ?rest1
          case hy1 => (intro W hSw; (try dsimp only at hSw); go_simp; (try with_reducible rfl))
          (try simp only [Act.put, List.setIfInBounds_toArray, List.set_cons_zero, List.set_cons_succ])
          refine wpHead_take (i := 1) (g := 3) (oi := _) (rs := _) (v := ?v2) rfl (by kernel_rfl) (fun _ _ _ h => h) (Or.inl ⟨by rfl, ?hy2⟩) h0 ?rest2
          case hy2 => (intro W hSw; (try dsimp only at hSw); go_simp; (try with_reducible rfl))
          (try simp only [Act.put, List.setIfInBounds_toArray, List.set_cons_zero, List.set_cons_succ])
          refine wpHead_take (i := 2) (g := 3) (oi := _) (rs := _) (v := ?v3) rfl (by kernel_rfl) (fun _ _ _ h => h) (Or.inl ⟨by rfl, ?hy3⟩) h0 ?rest3
          case hy3 => (intro W hSw; (try dsimp only at hSw); go_simp; (try with_reducible rfl))
          (try simp only [Act.put, List.setIfInBounds_toArray, List.set_cons_zero, List.set_cons_succ])
          refine wpHead_take (i := 5) (g := 3) (oi := _) (rs := _) (v := ?v4) rfl (by kernel_rfl) (fun _ _ _ h => h) (Or.inl ⟨by rfl, ?hy4⟩) h0 ?rest4
          case hy4 => (intro W hSw; (try dsimp only at hSw); go_simp; (try with_reducible rfl))
          (try simp only [Act.put, List.setIfInBounds_toArray, List.set_cons_zero, List.set_cons_succ])
          refine wpHead_take (i := 6) (g := 3) (oi := _) (rs := _) (v := ?v5) rfl (by kernel_rfl) (fun _ _ _ h => h) (Or.inl ⟨by rfl, ?hy5⟩) h0 ?rest5
          case hy5 => (intro W hSw; (try dsimp only at hSw); go_simp; (try with_reducible rfl))
          (try simp only [Act.put, List.setIfInBounds_toArray, List.set_cons_zero, List.set_cons_succ])
          refine wpHead_take (i := 7) (g := 3) (oi := _) (rs := _) (v := ?v6) rfl (by kernel_rfl) (fun _ _ _ h => h) (Or.inl ⟨by rfl, ?hy6⟩) h0 ?rest6
          case hy6 => (intro W hSw; (try dsimp only at hSw); go_simp; (try with_reducible rfl))
          (try simp only [Act.put, List.setIfInBounds_toArray, List.set_cons_zero, List.set_cons_succ])
          refine wpHead_all (rs := [3, 8]) (by kernel_rfl) (fun j hj => ?_)
          rcases List.mem_cons.1 hj with hj | hj
          · subst hj
            refine wpOp_at (o := _) (rs := _) rfl (fun K hK => ?_)
            go_simp
            refine hK _ _ ⟨HSD.out _ (by (repeat (first | assumption | exact Kept.refl _ | apply Kept.drew | apply Kept.alloc))), ?_⟩
            clear hK K
            (try simp only [Act.put, List.setIfInBounds_toArray, List.set_cons_zero, List.set_cons_succ])
            refine wpHead_all (rs := [4, 8]) (by kernel_rfl) (fun j hj => ?_)
            rcases List.mem_cons.1 hj with hj | hj
            · subst hj
              refine wpOp_at (o := _) (rs := _) rfl (fun K hK => ?_)
              refine step_append_ap (by rfl) _ _ 23 (by rfl) (w.heap.size + 2) 44 i0 _ 3 32 Tryd.underlying23 hi0 hz0 hz1 hz2 (by rfl) (by decide) pg i cg (gs.flatMap dcc) (by rfl) (own_kept HS.out.og (by (repeat (first | assumption | exact Kept.refl _ | apply Kept.drew | apply Kept.alloc)))) _ (dcc (⟨sho a, (lw 2 k : Nat), (i : Nat)⟩ : Dc)) (by rfl) (by rfl) (news_at (by first | exact alloc_at _ _ | exact at2 _ _ _ | exact at2' _ _ _)) (dcc_one _) (by unfold maxLen; omega) (by omega) (HS.out.size_le (by (repeat (first | assumption | exact Kept.refl _ | apply Kept.drew | apply Kept.alloc)))) ?_
              intro g1 cap1 w1 o1 ap1 l1
              have h1 := (HS.out.stay (by (repeat (first | assumption | exact Kept.refl _ | apply Kept.drew | apply Kept.alloc)))).more HL1.out o1 ap1 l1
              have HS1 : Hid _ := h1
              have NB : Hid _ := HS.out.nb ap1
              have HSD1 : Hid (∀ W, Kept w1 W → W.cell? ⟨wr.heap.size, 0, none⟩ = some (.string (sho a)) ∧ W.cell? ⟨wr.heap.size, 1, none⟩ = some (.int .i64 (lw 2 k : Nat)) ∧ W.cell? ⟨wr.heap.size, 2, none⟩ = some (.int .i64 (i : Nat)) ∧ W.cell? ⟨w.heap.size + 1, 0, none⟩ = some (.slice pg i cg) ∧ W.cell? ⟨w.heap.size + 1, 1, none⟩ = some (.slice pf i cf)) := fun W hW => (fun h => ⟨h.2.2.1.1, h.2.2.1.2.1, h.2.2.1.2.2, h.1.1, h.2.1.1⟩) (HS1.out.cells hW)
              clear h1 o1 ap1 l1
              refine hK _ _ ⟨HSD1.out _ (by (repeat (first | assumption | exact Kept.refl _ | apply Kept.drew | apply Kept.alloc))), ?_⟩
              clear hK K
              (try simp only [Act.put, List.setIfInBounds_toArray, List.set_cons_zero, List.set_cons_succ])
              refine wpHead_take (i := 10) (g := 3) (oi := _) (rs := _) (v := ?v7) rfl (by kernel_rfl) (fun _ _ _ h => h) (Or.inl ⟨by rfl, ?hy7⟩) (HSD1.out _ (by (repeat (first | assumption | exact Kept.refl _ | apply Kept.drew | apply Kept.alloc)))) ?rest7
              case hy7 => (intro W hSw; (try dsimp only at hSw); go_simp; (try with_reducible rfl))
              (try simp only [Act.put, List.setIfInBounds_toArray, List.set_cons_zero, List.set_cons_succ])
              refine wpHead_all (rs := [8]) (by kernel_rfl) (fun j hj => ?_)
              obtain rfl := List.mem_singleton.1 hj
              clear hj
              refine wpOp_at (o := _) (rs := _) rfl (fun K hK => ?_)
              go_simp
              refine hK _ _ ⟨HSD1.out _ (by (repeat (first | assumption | exact Kept.refl _ | apply Kept.drew | apply Kept.alloc))), ?_⟩
              clear hK K
              (try simp only [Act.put, List.setIfInBounds_toArray, List.set_cons_zero, List.set_cons_succ])
              refine wpHead_all (rs := [9]) (by kernel_rfl) (fun j hj => ?_)
              obtain rfl := List.mem_singleton.1 hj
              clear hj
              refine wpOp_at (o := _) (rs := _) rfl (fun K hK => ?_)
              refine step_append_ap (by rfl) _ _ 23 (by rfl) (w.heap.size + 2) 44 i0 _ 3 32 Tryd.underlying23 hi0 hz0 hz1 hz2 (by rfl) (by decide) pf i cf (fs.flatMap dcc) (by rfl) (own_kept HS1.out.of (by (repeat (first | assumption | exact Kept.refl _ | apply Kept.drew | apply Kept.alloc)))) _ (dcc (⟨sho a, (lw 2 k : Nat), (i : Nat)⟩ : Dc)) (by rfl) (by rfl) (news_at (by first | exact alloc_at _ _ | exact NB.out _ _ (Nat.le_refl _) (at2 _ _ _) | exact NB.out _ _ (Nat.le_succ _) (at2' _ _ _))) (dcc_one _) (by unfold maxLen; omega) (by omega) (HS1.out.size_le (by (repeat (first | assumption | exact Kept.refl _ | apply Kept.drew | apply Kept.alloc)))) ?_
              intro g2 cap2 w2 o2 ap2 l2
              have h2 := ((HS1.out.stay (by (repeat (first | assumption | exact Kept.refl _ | apply Kept.drew | apply Kept.alloc)))).swap.more HL2.out o2 ap2 l2).swap
              have HS2 : Hid _ := h2
              have HSD2 : Hid (∀ W, Kept w2 W → W.cell? ⟨wr.heap.size, 0, none⟩ = some (.string (sho a)) ∧ W.cell? ⟨wr.heap.size, 1, none⟩ = some (.int .i64 (lw 2 k : Nat)) ∧ W.cell? ⟨wr.heap.size, 2, none⟩ = some (.int .i64 (i : Nat)) ∧ W.cell? ⟨w.heap.size + 1, 0, none⟩ = some (.slice pg i cg) ∧ W.cell? ⟨w.heap.size + 1, 1, none⟩ = some (.slice pf i cf)) := fun W hW => (fun h => ⟨h.2.2.1.1, h.2.2.1.2.1, h.2.2.1.2.2, h.1.1, h.2.1.1⟩) (HS2.out.cells hW)
              clear h2 o2 ap2 l2
              refine hK _ _ ⟨HSD2.out _ (by (repeat (first | assumption | exact Kept.refl _ | apply Kept.drew | apply Kept.alloc))), ?_⟩
              clear hK K
              (try simp only [Act.put, List.setIfInBounds_toArray, List.set_cons_zero, List.set_cons_succ])
              refine ⟨by rfl, ?_⟩
              obtain ⟨⟨q0, r0⟩, _, _, q3⟩ := HS2.out.cells (Kept.refl w2)
              have q4 := fun v => (q3 v).1.1
              have q5 := fun v => (q3 v).1.2
              clear q3 HSD HSD1 HSD2 NB HS HS1
              go_wp2_with fail
              refine NoPanic.normal ?_
              rw [HQ.out]
              exact ⟨rfl, _, _, _, _, _, rfl, rfl, rfl, rfl, rfl, rfl, HM.out.six ⟨sho_size _, by show (0 : Int) ≤ (lw 2 k : Nat); omega, by show ((lw 2 k : Nat) : Int) ≤ 3; omega⟩ HS2.out⟩
            · obtain rfl := List.mem_singleton.1 hj
              clear hj
              refine wpOp_at (o := _) (rs := _) rfl (fun K hK => ?_)
              go_simp
              refine hK _ _ ⟨HSD.out _ (by (repeat (first | assumption | exact Kept.refl _ | apply Kept.drew | apply Kept.alloc))), ?_⟩
              clear hK K
              (try simp only [Act.put, List.setIfInBounds_toArray, List.set_cons_zero, List.set_cons_succ])
              refine wpHead_all (rs := [4]) (by kernel_rfl) (fun j hj => ?_)
              obtain rfl := List.mem_singleton.1 hj
              clear hj
              refine wpOp_at (o := _) (rs := _) rfl (fun K hK => ?_)
              refine step_append_ap (by rfl) _ _ 23 (by rfl) (w.heap.size + 2) 44 i0 _ 3 32 Tryd.underlying23 hi0 hz0 hz1 hz2 (by rfl) (by decide) pg i cg (gs.flatMap dcc) (by rfl) (own_kept HS.out.og (by (repeat (first | assumption | exact Kept.refl _ | apply Kept.drew | apply Kept.alloc)))) _ (dcc (⟨sho a, (lw 2 k : Nat), (i : Nat)⟩ : Dc)) (by rfl) (by rfl) (news_at (by first | exact alloc_at _ _ | exact at2 _ _ _ | exact at2' _ _ _)) (dcc_one _) (by unfold maxLen; omega) (by omega) (HS.out.size_le (by (repeat (first | assumption | exact Kept.refl _ | apply Kept.drew | apply Kept.alloc)))) ?_
              intro g1 cap1 w1 o1 ap1 l1
              have h1 := (HS.out.stay (by (repeat (first | assumption | exact Kept.refl _ | apply Kept.drew | apply Kept.alloc)))).more HL1.out o1 ap1 l1
              have HS1 : Hid _ := h1
              have NB : Hid _ := HS.out.nb ap1
              have HSD1 : Hid (∀ W, Kept w1 W → W.cell? ⟨wr.heap.size, 0, none⟩ = some (.string (sho a)) ∧ W.cell? ⟨wr.heap.size, 1, none⟩ = some (.int .i64 (lw 2 k : Nat)) ∧ W.cell? ⟨wr.heap.size, 2, none⟩ = some (.int .i64 (i : Nat)) ∧ W.cell? ⟨w.heap.size + 1, 0, none⟩ = some (.slice pg i cg) ∧ W.cell? ⟨w.heap.size + 1, 1, none⟩ = some (.slice pf i cf)) := fun W hW => (fun h => ⟨h.2.2.1.1, h.2.2.1.2.1, h.2.2.1.2.2, h.1.1, h.2.1.1⟩) (HS1.out.cells hW)
              clear h1 o1 ap1 l1
              refine hK _ _ ⟨HSD1.out _ (by (repeat (first | assumption | exact Kept.refl _ | apply Kept.drew | apply Kept.alloc))), ?_⟩
              clear hK K
              (try simp only [Act.put, List.setIfInBounds_toArray, List.set_cons_zero, List.set_cons_succ])
              refine wpHead_take (i := 10) (g := 3) (oi := _) (rs := _) (v := ?v8) rfl (by kernel_rfl) (fun _ _ _ h => h) (Or.inl ⟨by rfl, ?hy8⟩) (HSD1.out _ (by (repeat (first | assumption | exact Kept.refl _ | apply Kept.drew | apply Kept.alloc)))) ?rest8
              case hy8 => (intro W hSw; (try dsimp only at hSw); go_simp; (try with_reducible rfl))
              (try simp only [Act.put, List.setIfInBounds_toArray, List.set_cons_zero, List.set_cons_succ])
              refine wpHead_all (rs := [9]) (by kernel_rfl) (fun j hj => ?_)
              obtain rfl := List.mem_singleton.1 hj
              clear hj
              refine wpOp_at (o := _) (rs := _) rfl (fun K hK => ?_)
              refine step_append_ap (by rfl) _ _ 23 (by rfl) (w.heap.size + 2) 44 i0 _ 3 32 Tryd.underlying23 hi0 hz0 hz1 hz2 (by rfl) (by decide) pf i cf (fs.flatMap dcc) (by rfl) (own_kept HS1.out.of (by (repeat (first | assumption | exact Kept.refl _ | apply Kept.drew | apply Kept.alloc)))) _ (dcc (⟨sho a, (lw 2 k : Nat), (i : Nat)⟩ : Dc)) (by rfl) (by rfl) (news_at (by first | exact alloc_at _ _ | exact NB.out _ _ (Nat.le_refl _) (at2 _ _ _) | exact NB.out _ _ (Nat.le_succ _) (at2' _ _ _))) (dcc_one _) (by unfold maxLen; omega) (by omega) (HS1.out.size_le (by (repeat (first | assumption | exact Kept.refl _ | apply Kept.drew | apply Kept.alloc)))) ?_
              intro g2 cap2 w2 o2 ap2 l2
              have h2 := ((HS1.out.stay (by (repeat (first | assumption | exact Kept.refl _ | apply Kept.drew | apply Kept.alloc)))).swap.more HL2.out o2 ap2 l2).swap
              have HS2 : Hid _ := h2
              have HSD2 : Hid (∀ W, Kept w2 W → W.cell? ⟨wr.heap.size, 0, none⟩ = some (.string (sho a)) ∧ W.cell? ⟨wr.heap.size, 1, none⟩ = some (.int .i64 (lw 2 k : Nat)) ∧ W.cell? ⟨wr.heap.size, 2, none⟩ = some (.int .i64 (i : Nat)) ∧ W.cell? ⟨w.heap.size + 1, 0, none⟩ = some (.slice pg i cg) ∧ W.cell? ⟨w.heap.size + 1, 1, none⟩ = some (.slice pf i cf)) := fun W hW => (fun h => ⟨h.2.2.1.1, h.2.2.1.2.1, h.2.2.1.2.2, h.1.1, h.2.1.1⟩) (HS2.out.cells hW)
              clear h2 o2 ap2 l2
              refine hK _ _ ⟨HSD2.out _ (by (repeat (first | assumption | exact Kept.refl _ | apply Kept.drew | apply Kept.alloc))), ?_⟩
              clear hK K
              (try simp only [Act.put, List.setIfInBounds_toArray, List.set_cons_zero, List.set_cons_succ])
              refine ⟨by rfl, ?_⟩
              obtain ⟨⟨q0, r0⟩, _, _, q3⟩ := HS2.out.cells (Kept.refl w2)
              have q4 := fun v => (q3 v).1.1
              have q5 := fun v => (q3 v).1.2
              clear q3 HSD HSD1 HSD2 NB HS HS1
              go_wp2_with fail
              refine NoPanic.normal ?_
              rw [HQ.out]
              exact ⟨rfl, _, _, _, _, _, rfl, rfl, rfl, rfl, rfl, rfl, HM.out.six ⟨sho_size _, by show (0 : Int) ≤ (lw 2 k : Nat); omega, by show ((lw 2 k : Nat) : Int) ≤ 3; omega⟩ HS2.out⟩
          · obtain rfl := List.mem_singleton.1 hj
            clear hj
            refine wpOp_at (o := _) (rs := _) rfl (fun K hK => ?_)
            go_simp
            refine hK _ _ ⟨HSD.out _ (by (repeat (first | assumption | exact Kept.refl _ | apply Kept.drew | apply Kept.alloc))), ?_⟩
            clear hK K
            (try simp only [Act.put, List.setIfInBounds_toArray, List.set_cons_zero, List.set_cons_succ])
            refine wpHead_all (rs := [3]) (by kernel_rfl) (fun j hj => ?_)
            obtain rfl := List.mem_singleton.1 hj
            clear hj
            refine wpOp_at (o := _) (rs := _) rfl (fun K hK => ?_)
            go_simp
            refine hK _ _ ⟨HSD.out _ (by (repeat (first | assumption | exact Kept.refl _ | apply Kept.drew | apply Kept.alloc))), ?_⟩
            clear hK K
            (try simp only [Act.put, List.setIfInBounds_toArray, List.set_cons_zero, List.set_cons_succ])
            refine wpHead_all (rs := [4]) (by kernel_rfl) (fun j hj => ?_)
            obtain rfl := List.mem_singleton.1 hj
            clear hj
            refine wpOp_at (o := _) (rs := _) rfl (fun K hK => ?_)
            refine step_append_ap (by rfl) _ _ 23 (by rfl) (w.heap.size + 2) 44 i0 _ 3 32 Tryd.underlying23 hi0 hz0 hz1 hz2 (by rfl) (by decide) pg i cg (gs.flatMap dcc) (by rfl) (own_kept HS.out.og (by (repeat (first | assumption | exact Kept.refl _ | apply Kept.drew | apply Kept.alloc)))) _ (dcc (⟨sho a, (lw 2 k : Nat), (i : Nat)⟩ : Dc)) (by rfl) (by rfl) (news_at (by first | exact alloc_at _ _ | exact at2 _ _ _ | exact at2' _ _ _)) (dcc_one _) (by unfold maxLen; omega) (by omega) (HS.out.size_le (by (repeat (first | assumption | exact Kept.refl _ | apply Kept.drew | apply Kept.alloc)))) ?_
            intro g1 cap1 w1 o1 ap1 l1
            have h1 := (HS.out.stay (by (repeat (first | assumption | exact Kept.refl _ | apply Kept.drew | apply Kept.alloc)))).more HL1.out o1 ap1 l1
            have HS1 : Hid _ := h1
            have NB : Hid _ := HS.out.nb ap1
            have HSD1 : Hid (∀ W, Kept w1 W → W.cell? ⟨wr.heap.size, 0, none⟩ = some (.string (sho a)) ∧ W.cell? ⟨wr.heap.size, 1, none⟩ = some (.int .i64 (lw 2 k : Nat)) ∧ W.cell? ⟨wr.heap.size, 2, none⟩ = some (.int .i64 (i : Nat)) ∧ W.cell? ⟨w.heap.size + 1, 0, none⟩ = some (.slice pg i cg) ∧ W.cell? ⟨w.heap.size + 1, 1, none⟩ = some (.slice pf i cf)) := fun W hW => (fun h => ⟨h.2.2.1.1, h.2.2.1.2.1, h.2.2.1.2.2, h.1.1, h.2.1.1⟩) (HS1.out.cells hW)
            clear h1 o1 ap1 l1
            refine hK _ _ ⟨HSD1.out _ (by (repeat (first | assumption | exact Kept.refl _ | apply Kept.drew | apply Kept.alloc))), ?_⟩
            clear hK K
            (try simp only [Act.put, List.setIfInBounds_toArray, List.set_cons_zero, List.set_cons_succ])
            refine wpHead_take (i := 10) (g := 3) (oi := _) (rs := _) (v := ?v9) rfl (by kernel_rfl) (fun _ _ _ h => h) (Or.inl ⟨by rfl, ?hy9⟩) (HSD1.out _ (by (repeat (first | assumption | exact Kept.refl _ | apply Kept.drew | apply Kept.alloc)))) ?rest9
            case hy9 => (intro W hSw; (try dsimp only at hSw); go_simp; (try with_reducible rfl))
            (try simp only [Act.put, List.setIfInBounds_toArray, List.set_cons_zero, List.set_cons_succ])
            refine wpHead_all (rs := [9]) (by kernel_rfl) (fun j hj => ?_)
            obtain rfl := List.mem_singleton.1 hj
            clear hj
            refine wpOp_at (o := _) (rs := _) rfl (fun K hK => ?_)
            refine step_append_ap (by rfl) _ _ 23 (by rfl) (w.heap.size + 2) 44 i0 _ 3 32 Tryd.underlying23 hi0 hz0 hz1 hz2 (by rfl) (by decide) pf i cf (fs.flatMap dcc) (by rfl) (own_kept HS1.out.of (by (repeat (first | assumption | exact Kept.refl _ | apply Kept.drew | apply Kept.alloc)))) _ (dcc (⟨sho a, (lw 2 k : Nat), (i : Nat)⟩ : Dc)) (by rfl) (by rfl) (news_at (by first | exact alloc_at _ _ | exact NB.out _ _ (Nat.le_refl _) (at2 _ _ _) | exact NB.out _ _ (Nat.le_succ _) (at2' _ _ _))) (dcc_one _) (by unfold maxLen; omega) (by omega) (HS1.out.size_le (by (repeat (first | assumption | exact Kept.refl _ | apply Kept.drew | apply Kept.alloc)))) ?_
            intro g2 cap2 w2 o2 ap2 l2
            have h2 := ((HS1.out.stay (by (repeat (first | assumption | exact Kept.refl _ | apply Kept.drew | apply Kept.alloc)))).swap.more HL2.out o2 ap2 l2).swap
            have HS2 : Hid _ := h2
            have HSD2 : Hid (∀ W, Kept w2 W → W.cell? ⟨wr.heap.size, 0, none⟩ = some (.string (sho a)) ∧ W.cell? ⟨wr.heap.size, 1, none⟩ = some (.int .i64 (lw 2 k : Nat)) ∧ W.cell? ⟨wr.heap.size, 2, none⟩ = some (.int .i64 (i : Nat)) ∧ W.cell? ⟨w.heap.size + 1, 0, none⟩ = some (.slice pg i cg) ∧ W.cell? ⟨w.heap.size + 1, 1, none⟩ = some (.slice pf i cf)) := fun W hW => (fun h => ⟨h.2.2.1.1, h.2.2.1.2.1, h.2.2.1.2.2, h.1.1, h.2.1.1⟩) (HS2.out.cells hW)
            clear h2 o2 ap2 l2
            refine hK _ _ ⟨HSD2.out _ (by (repeat (first | assumption | exact Kept.refl _ | apply Kept.drew | apply Kept.alloc))), ?_⟩
            clear hK K
            (try simp only [Act.put, List.setIfInBounds_toArray, List.set_cons_zero, List.set_cons_succ])
            refine ⟨by rfl, ?_⟩
            obtain ⟨⟨q0, r0⟩, _, _, q3⟩ := HS2.out.cells (Kept.refl w2)
            have q4 := fun v => (q3 v).1.1
            have q5 := fun v => (q3 v).1.2
            clear q3 HSD HSD1 HSD2 NB HS HS1
            go_wp2_with fail
            refine NoPanic.normal ?_
            rw [HQ.out]
            exact ⟨rfl, _, _, _, _, _, rfl, rfl, rfl, rfl, rfl, rfl, HM.out.six ⟨sho_size _, by show (0 : Int) ≤ (lw 2 k : Nat); omega, by show ((lw 2 k : Nat) : Int) ≤ 3; omega⟩ HS2.out⟩
        · rw [HQ.out]
          rintro ex1 fr1 wb ⟨rfl, tm, gg, cgg, gf, cgf, rfl, hsz6, s0, s2, s3, s4, hm7⟩
          clear HQ Qb HS HKA
          have HM7 : Hid _ := hm7
          have hcaps := hm7.caps
          have hcgg : cgg ≤ 9223372036854775807 := by have := hcaps.1.2; unfold maxLen at this; omega
          have hcgf : cgf ≤ 9223372036854775807 := by have := hcaps.2.1.2; unfold maxLen at this; omega
          have hlg : i + 1 ≤ cgg := hcaps.1.1
          have hlf : i + 1 ≤ cgf := hcaps.2.1.1
          have HKR : Hid (Kept w wb) := hm7.low
          have hT0 : wb.cell? ⟨w.heap.size + 1, 0, none⟩ = some (.slice (some ⟨gg, 0, none⟩) (i + 1) cgg) := by rw [cell_of_row _ _ 0 _ _ _ hm7.tr]; rfl
          have hT1 : wb.cell? ⟨w.heap.size + 1, 1, none⟩ = some (.slice (some ⟨gf, 0, none⟩) (i + 1) cgf) := by rw [cell_of_row _ _ 1 _ _ _ hm7.tr]; rfl
          have hT2 : wb.cell? ⟨w.heap.size + 1, 2, none⟩ = some (.slice pn i cn) := by rw [cell_of_row _ _ 2 _ _ _ hm7.tr]; rfl
          have hl4 : w.cell? ⟨b, o + i * 6 + 4, none⟩ = some (.string bb) := HCW.out 4 _ rfl
          have hl1 : w.cell? ⟨b, o + i * 6 + 1, none⟩ = some (.int .i64 op) := HCW.out 1 _ rfl
          have HBW : Hid (b < w.heap.size) := World.block_lt_of_cell? w _ hl4
          have HS7 : Hid (∀ W, Kept wb W → W.cell? ⟨b, o + i * 6 + 4, none⟩ = some (.string bb) ∧ W.cell? ⟨b, o + i * 6 + 1, none⟩ = some (.int .i64 op) ∧ W.cell? ⟨w.heap.size + 1, 0, none⟩ = some (.slice (some ⟨gg, 0, none⟩) (i + 1) cgg) ∧ W.cell? ⟨w.heap.size + 1, 1, none⟩ = some (.slice (some ⟨gf, 0, none⟩) (i + 1) cgf) ∧ W.cell? ⟨w.heap.size + 1, 2, none⟩ = some (.slice pn i cn)) := fun W hW => ⟨hW.cell (HKR.out.cell hl4), hW.cell (HKR.out.cell hl1), hW.cell hT0, hW.cell hT1, hW.cell hT2⟩
          have HIH : Hid (∀ W, Es W (some ⟨b, o + i * 6, none⟩) (n - i) (c - i) (l.drop i) → Calls Tryd.prog 19 #[.slice (some ⟨b, o + i * 6, none⟩) (n - i) (c - i), .int .i64 2] W fun x w' => ∃ q m cc s, x = .returned (.slice q m cc) ∧ (∀ W', Kp (W.heap.size ≤ ·) w' W' → Sl W' q m cc s) ∧ s.Ok ∧ s.dp ≤ 2 + 1 ∧ s.sz ≤ 10 * Cst 2 ∧ Kept W w') := fun W h => stmts_walk 2 (by decide) W _ _ _ _ h
          have htl := HTL.out
          have hhd : ∀ W, (Instr.sliceAt 23 (.slice (some ⟨gf, 0, none⟩) (i + 1) cgf) none (some (.int .i64 (i : Nat))) none).run Tryd.prog W = .ok (.slice (some ⟨gf, 0, none⟩) i cgf) W := fun W => head_slice gf 0 (i + 1) cgf i (by omega) W
          clear hm7 hcaps hT0 hT1 hT2 hl4 hl1
          revert tm
          refine lit72 ?_
          intro y0 y1 y2 y3 y4 y5 y6 y7 y8 y9 y10 y11 y12 y13 y14 y15 y16 y17 y18 y19 y20 y21 y22 y23 y24 y25 y26 y27 y28 y29 y30 y31 y32 y33 y34 y35 y36 y37 y38 y39 y40 y41 y42 y43 y44 y45 y46 y47 y48 y49 y50 y51 y52 y53 y54 y55 y56 y57 y58 y59 y60 y61 y62 y63 y64 y65 y66 y67 y68 y69 y70 y71 s0 s2 s3 s4
          have e0 : y0 = .slice (some ⟨b, o, none⟩) n c := s0
          have e2 : y2 = .pointer (some ⟨w.heap.size, 0, none⟩) := s2
          have e3 : y3 = .pointer (some ⟨w.heap.size + 1, 0, none⟩) := s3
          have e4 : y4 = .int .i64 (i : Nat) := s4
          clear s0 s2 s3 s4
          subst e0 e2 e3 e4
          simp only [Exit.then]
          obtain ⟨Qb, hQ⟩ : ∃ Qb : Exit → Act → World → Prop, Qb = (fun ex1 fr1 w1 => ex1 = .normal ∧ ∃ (tm : Array Value) (gn cgn : Nat) (fl' : List Fc) (cs' : List Value), fr1 = ⟨tm, []⟩ ∧ tm.size = 72 ∧ tm.getD 0 undef = .slice (some ⟨b, o, none⟩) n c ∧ tm.getD 2 undef = .pointer (some ⟨w.heap.size, 0, none⟩) ∧ tm.getD 3 undef = .pointer (some ⟨w.heap.size + 1, 0, none⟩) ∧ tm.getD 4 undef = .int .i64 (i : Nat) ∧ Md w (i + 1) (i + 1) (some ⟨gg, 0, none⟩) cgg (gs ++ [(⟨sho a, (lw 2 k : Nat), (i : Nat)⟩ : Dc)]) (some ⟨gf, 0, none⟩) cgf (fs ++ [(⟨sho a, (lw 2 k : Nat), (i : Nat)⟩ : Dc)]) (some ⟨gn, 0, none⟩) cgn fl' cs' w1) := ⟨_, rfl⟩
          have HQ : Hid _ := hQ
          clear hQ
          refine wp_mono (show Code.wp _ _ Qb _ _ from ?_) ?_
          · clear hJ hK
            refine wp_region_noPanic ?_
            refine wp_region_head (by kernel_rfl) (fun W => W.cell? ⟨b, o + i * 6 + 4, none⟩ = some (.string bb) ∧ W.cell? ⟨b, o + i * 6 + 1, none⟩ = some (.int .i64 op) ∧ W.cell? ⟨w.heap.size + 1, 0, none⟩ = some (.slice (some ⟨gg, 0, none⟩) (i + 1) cgg) ∧ W.cell? ⟨w.heap.size + 1, 1, none⟩ = some (.slice (some ⟨gf, 0, none⟩) (i + 1) cgf) ∧ W.cell? ⟨w.heap.size + 1, 2, none⟩ = some (.slice pn i cn)) 28 [_] #[true, true, true, true, true, true, true, true, true, true, true, true, true, true, true, true, true, true, true, true, true, true, true, true, true, true, true, true, false] (by kernel_rfl) rfl ?_
            have h0 := HS7.out _ (Kept.refl wb).drew
            refine wpHead_take (i := 0) (g := 1) (oi := _) (rs := _) (v := ?v10) rfl (by kernel_rfl) (fun _ _ _ h => h) (Or.inl ⟨by rfl, ?hy10⟩) (HS7.out _ (by (repeat (first | assumption | exact Kept.refl _ | apply Kept.drew | apply Kept.alloc)))) ?rest10
            case hy10 => (intro W hSw; (try dsimp only at hSw); go_simp; (try with_reducible rfl))
            (try simp only [Act.put, List.setIfInBounds_toArray, List.set_cons_zero, List.set_cons_succ])
            refine wpHead_take (i := 1) (g := 1) (oi := _) (rs := _) (v := ?v11) rfl (by kernel_rfl) (fun _ _ _ h => h) (Or.inl ⟨by rfl, ?hy11⟩) (HS7.out _ (by (repeat (first | assumption | exact Kept.refl _ | apply Kept.drew | apply Kept.alloc)))) ?rest11
            case hy11 => (intro W hSw; (try dsimp only at hSw); go_simp; (try with_reducible rfl))
            (try simp only [Act.put, List.setIfInBounds_toArray, List.set_cons_zero, List.set_cons_succ])
            refine wpHead_take (i := 2) (g := 1) (oi := _) (rs := _) (v := ?v12) rfl (by kernel_rfl) (fun _ _ _ h => h) (Or.inl ⟨by rfl, ?hy12⟩) (HS7.out _ (by (repeat (first | assumption | exact Kept.refl _ | apply Kept.drew | apply Kept.alloc)))) ?rest12
            case hy12 => (intro W hSw; (try dsimp only at hSw); go_simp; (try with_reducible rfl))
            (try simp only [Act.put, List.setIfInBounds_toArray, List.set_cons_zero, List.set_cons_succ])
            refine wpHead_take (i := 3) (g := 1) (oi := _) (rs := _) (v := ?v13) rfl (by kernel_rfl) (fun _ _ _ h => h) (Or.inl ⟨by rfl, ?hy13⟩) (HS7.out _ (by (repeat (first | assumption | exact Kept.refl _ | apply Kept.drew | apply Kept.alloc)))) ?rest13
            case hy13 => (intro W hSw; (try dsimp only at hSw); go_simp; (try with_reducible rfl))
            (try simp only [Act.put, List.setIfInBounds_toArray, List.set_cons_zero, List.set_cons_succ])
            refine wpHead_take (i := 4) (g := 1) (oi := _) (rs := _) (v := ?v14) rfl (by kernel_rfl) (fun _ _ _ h => h) (Or.inl ⟨by rfl, ?hy14⟩) (HS7.out _ (by (repeat (first | assumption | exact Kept.refl _ | apply Kept.drew | apply Kept.alloc)))) ?rest14
            case hy14 => (intro W hSw; (try dsimp only at hSw); go_simp; (try with_reducible rfl))
            (try simp only [Act.put, List.setIfInBounds_toArray, List.set_cons_zero, List.set_cons_succ])
            refine wpHead_take (i := 5) (g := 1) (oi := _) (rs := _) (v := ?v15) rfl (by kernel_rfl) (fun _ _ _ h => h) (Or.inl ⟨by rfl, ?hy15⟩) (HS7.out _ (by (repeat (first | assumption | exact Kept.refl _ | apply Kept.drew | apply Kept.alloc)))) ?rest15
            case hy15 => (intro W hSw; (try dsimp only at hSw); go_simp; (try with_reducible rfl))
            (try simp only [Act.put, List.setIfInBounds_toArray, List.set_cons_zero, List.set_cons_succ])
            refine wpHead_take (i := 6) (g := 1) (oi := _) (rs := _) (v := ?v16) rfl (by kernel_rfl) (fun _ _ _ h => h) (Or.inl ⟨by rfl, ?hy16⟩) (HS7.out _ (by (repeat (first | assumption | exact Kept.refl _ | apply Kept.drew | apply Kept.alloc)))) ?rest16
            case hy16 => (intro W hSw; (try dsimp only at hSw); go_simp; (try with_reducible rfl))
            (try simp only [Act.put, List.setIfInBounds_toArray, List.set_cons_zero, List.set_cons_succ])
            refine wpHead_take (i := 8) (g := 1) (oi := _) (rs := _) (v := ?v17) rfl (by kernel_rfl) (fun _ _ _ h => h) (Or.inl ⟨by rfl, ?hy17⟩) (HS7.out _ (by (repeat (first | assumption | exact Kept.refl _ | apply Kept.drew | apply Kept.alloc)))) ?rest17
            case hy17 => (intro W hSw; (try dsimp only at hSw); go_simp; (try with_reducible rfl))
            (try simp only [Act.put, List.setIfInBounds_toArray, List.set_cons_zero, List.set_cons_succ])
            refine wpHead_take (i := 9) (g := 1) (oi := _) (rs := _) (v := ?v18) rfl (by kernel_rfl) (fun _ _ _ h => h) (Or.inl ⟨by rfl, ?hy18⟩) (HS7.out _ (by (repeat (first | assumption | exact Kept.refl _ | apply Kept.drew | apply Kept.alloc)))) ?rest18
            case hy18 => (intro W hSw; (try dsimp only at hSw); go_simp; (try with_reducible rfl))
            (try simp only [Act.put, List.setIfInBounds_toArray, List.set_cons_zero, List.set_cons_succ])
            refine wpHead_take (i := 10) (g := 1) (oi := _) (rs := _) (v := ?v19) rfl (by kernel_rfl) (fun _ _ _ h => h) (Or.inl ⟨by rfl, ?hy19⟩) (HS7.out _ (by (repeat (first | assumption | exact Kept.refl _ | apply Kept.drew | apply Kept.alloc)))) ?rest19
            case hy19 => (intro W hSw; (try dsimp only at hSw); go_simp; (try with_reducible rfl))
            (try simp only [Act.put, List.setIfInBounds_toArray, List.set_cons_zero, List.set_cons_succ])
            refine wpHead_take (i := 11) (g := 1) (oi := _) (rs := _) (v := ?v20) rfl (by kernel_rfl) (fun _ _ _ h => h) (Or.inl ⟨by rfl, ?hy20⟩) (HS7.out _ (by (repeat (first | assumption | exact Kept.refl _ | apply Kept.drew | apply Kept.alloc)))) ?rest20
            case hy20 => (intro W hSw; (try dsimp only at hSw); go_simp; (try with_reducible rfl))
            (try simp only [Act.put, List.setIfInBounds_toArray, List.set_cons_zero, List.set_cons_succ])
            refine wpHead_take (i := 12) (g := 1) (oi := _) (rs := _) (v := ?v21) rfl (by kernel_rfl) (fun _ _ _ h => h) (Or.inl ⟨by rfl, ?hy21⟩) (HS7.out _ (by (repeat (first | assumption | exact Kept.refl _ | apply Kept.drew | apply Kept.alloc)))) ?rest21
            case hy21 => (intro W hSw; (try dsimp only at hSw); go_simp; (try with_reducible rfl))
            (try simp only [Act.put, List.setIfInBounds_toArray, List.set_cons_zero, List.set_cons_succ])
            refine wpHead_take (i := 13) (g := 1) (oi := _) (rs := _) (v := ?v22) rfl (by kernel_rfl) (fun _ _ _ h => h) (Or.inl ⟨by rfl, ?hy22⟩) (HS7.out _ (by (repeat (first | assumption | exact Kept.refl _ | apply Kept.drew | apply Kept.alloc)))) ?rest22
            case hy22 => (intro W hSw; (try dsimp only at hSw); go_simp; (try with_reducible rfl))
            (try simp only [Act.put, List.setIfInBounds_toArray, List.set_cons_zero, List.set_cons_succ])
            refine wpHead_take (i := 14) (g := 1) (oi := _) (rs := _) (v := ?v23) rfl (by kernel_rfl) (fun _ _ _ h => h) (Or.inl ⟨by rfl, ?hy23⟩) (HS7.out _ (by (repeat (first | assumption | exact Kept.refl _ | apply Kept.drew | apply Kept.alloc)))) ?rest23
            case hy23 => (intro W hSw; (try dsimp only at hSw); go_simp; (try with_reducible rfl))
            (try simp only [Act.put, List.setIfInBounds_toArray, List.set_cons_zero, List.set_cons_succ])
            refine wpHead_take (i := 15) (g := 1) (oi := _) (rs := _) (v := ?v24) rfl (by kernel_rfl) (fun _ _ _ h => h) (Or.inl ⟨by rfl, ?hy24⟩) (HS7.out _ (by (repeat (first | assumption | exact Kept.refl _ | apply Kept.drew | apply Kept.alloc)))) ?rest24
            case hy24 => (intro W hSw; (try dsimp only at hSw); go_simp; (try with_reducible rfl))
            (try simp only [Act.put, List.setIfInBounds_toArray, List.set_cons_zero, List.set_cons_succ])
            refine wpHead_take (i := 16) (g := 1) (oi := _) (rs := _) (v := ?v25) rfl (by kernel_rfl) (fun _ _ _ h => h) (Or.inl ⟨by rfl, ?hy25⟩) (HS7.out _ (by (repeat (first | assumption | exact Kept.refl _ | apply Kept.drew | apply Kept.alloc)))) ?rest25
            case hy25 => (intro W hSw; (try dsimp only at hSw); go_simp; (try with_reducible rfl))
            (try simp only [Act.put, List.setIfInBounds_toArray, List.set_cons_zero, List.set_cons_succ])
            refine wpHead_take (i := 17) (g := 1) (oi := _) (rs := _) (v := ?v26) rfl (by kernel_rfl) (fun _ _ _ h => h) (Or.inl ⟨by rfl, ?hy26⟩) (HS7.out _ (by (repeat (first | assumption | exact Kept.refl _ | apply Kept.drew | apply Kept.alloc)))) ?rest26
            case hy26 => (intro W hSw; (try dsimp only at hSw); go_simp; (try with_reducible rfl))
            (try simp only [Act.put, List.setIfInBounds_toArray, List.set_cons_zero, List.set_cons_succ])
            refine wpHead_take (i := 18) (g := 1) (oi := _) (rs := _) (v := ?v27) rfl (by kernel_rfl) (fun _ _ _ h => h) (Or.inl ⟨by rfl, ?hy27⟩) (HS7.out _ (by (repeat (first | assumption | exact Kept.refl _ | apply Kept.drew | apply Kept.alloc)))) ?rest27
            case hy27 => (intro W hSw; (try dsimp only at hSw); go_simp; (try with_reducible rfl))
            (try simp only [Act.put, List.setIfInBounds_toArray, List.set_cons_zero, List.set_cons_succ])
            refine wpHead_take (i := 19) (g := 1) (oi := _) (rs := _) (v := ?v28) rfl (by kernel_rfl) (fun _ _ _ h => h) (Or.inl ⟨by rfl, ?hy28⟩) (HS7.out _ (by (repeat (first | assumption | exact Kept.refl _ | apply Kept.drew | apply Kept.alloc)))) ?rest28
            case hy28 => (intro W hSw; (try dsimp only at hSw); go_simp; (try with_reducible rfl))
            (try simp only [Act.put, List.setIfInBounds_toArray, List.set_cons_zero, List.set_cons_succ])
            refine wpHead_take (i := 20) (g := 1) (oi := _) (rs := _) (v := ?v29) rfl (by kernel_rfl) (fun _ _ _ h => h) (Or.inl ⟨by rfl, ?hy29⟩) (HS7.out _ (by (repeat (first | assumption | exact Kept.refl _ | apply Kept.drew | apply Kept.alloc)))) ?rest29
            case hy29 => (intro W hSw; (try dsimp only at hSw); go_simp; (try with_reducible rfl))
            (try simp only [Act.put, List.setIfInBounds_toArray, List.set_cons_zero, List.set_cons_succ])
            refine wpHead_take (i := 21) (g := 1) (oi := _) (rs := _) (v := ?v30) rfl (by kernel_rfl) (fun _ _ _ h => h) (Or.inl ⟨by rfl, ?hy30⟩) (HS7.out _ (by (repeat (first | assumption | exact Kept.refl _ | apply Kept.drew | apply Kept.alloc)))) ?rest30
            case hy30 => (intro W hSw; (try dsimp only at hSw); go_simp; (try with_reducible rfl))
            (try simp only [Act.put, List.setIfInBounds_toArray, List.set_cons_zero, List.set_cons_succ])
            refine wpHead_take (i := 22) (g := 1) (oi := _) (rs := _) (v := ?v31) rfl (by kernel_rfl) (fun _ _ _ h => h) (Or.inl ⟨by rfl, ?hy31⟩) (HS7.out _ (by (repeat (first | assumption | exact Kept.refl _ | apply Kept.drew | apply Kept.alloc)))) ?rest31
            case hy31 => (intro W hSw; (try dsimp only at hSw); go_simp; (try with_reducible rfl))
            (try simp only [Act.put, List.setIfInBounds_toArray, List.set_cons_zero, List.set_cons_succ])
            refine wpHead_all (rs := [7]) (by kernel_rfl) (fun j hj => ?_)
            obtain rfl := List.mem_singleton.1 hj
            clear hj
            refine wpOp_at (o := _) (rs := _) rfl (fun K hK => ?_)
            go_simp
            go_at_call 18
            (with_reducible refine (hB.out _).mono ?_)
            rintro e w1 ⟨rfl, rfl⟩
            dsimp only
            refine hK _ _ ⟨HS7.out _ (by (repeat (first | assumption | exact Kept.refl _ | apply Kept.drew | apply Kept.alloc))), ?_⟩
            clear hK K
            (try simp only [Act.put, List.setIfInBounds_toArray, List.set_cons_zero, List.set_cons_succ])
            refine wpHead_all (rs := [23]) (by kernel_rfl) (fun j hj => ?_)
            obtain rfl := List.mem_singleton.1 hj
            clear hj
            refine wpOp_at (o := _) (rs := _) rfl (fun K hK => ?_)
            go_simp
            go_at_call 19
            (with_reducible refine (HIH.out _ (HET.out _ (HM7.out.low.trans (by (repeat (first | assumption | exact Kept.refl _ | apply Kept.drew | apply Kept.alloc)))))).mono ?_)
            rintro x w2 ⟨q2, m2, c2, s2, rfl, hs2, ok2, dp2, sz2, hk2⟩
            have hkb : Kept wb w2 := Kept.trans (by (repeat (first | assumption | exact Kept.refl _ | apply Kept.drew | apply Kept.alloc))) hk2
            have HR : Hid (R7 wb w2 q2 m2 c2 s2) := r7_mk (by (repeat (first | assumption | exact Kept.refl _ | apply Kept.drew | apply Kept.alloc))) hk2 hs2 ok2 dp2 sz2
            clear hs2 ok2 dp2 sz2 hk2
            dsimp only
            refine hK _ _ ⟨HS7.out _ (by (repeat (first | assumption | exact Kept.refl _ | apply Kept.drew | apply Kept.alloc))), ?_⟩
            clear hK K
            (try simp only [Act.put, List.setIfInBounds_toArray, List.set_cons_zero, List.set_cons_succ])
            refine wpHead_take (i := 24) (g := 1) (oi := _) (rs := _) (v := ?v32) rfl (by kernel_rfl) (fun _ _ _ h => h) (Or.inl ⟨by rfl, ?hy32⟩) (HS7.out _ (by (repeat (first | assumption | exact Kept.refl _ | apply Kept.drew | apply Kept.alloc)))) ?rest32
            case hy32 => (intro W hSw; (try dsimp only at hSw); go_simp; (try with_reducible rfl))
            (try simp only [Act.put, List.setIfInBounds_toArray, List.set_cons_zero, List.set_cons_succ])
            refine wpHead_all (rs := [25]) (by kernel_rfl) (fun j hj => ?_)
            obtain rfl := List.mem_singleton.1 hj
            clear hj
            refine wpOp_at (o := _) (rs := _) rfl (fun K hK => ?_)
            go_simp
            refine hK _ _ ⟨HS7.out _ (by (repeat (first | assumption | exact Kept.refl _ | apply Kept.drew | apply Kept.alloc))), ?_⟩
            clear hK K
            (try simp only [Act.put, List.setIfInBounds_toArray, List.set_cons_zero, List.set_cons_succ])
            refine wpHead_all (rs := [26]) (by kernel_rfl) (fun j hj => ?_)
            obtain rfl := List.mem_singleton.1 hj
            clear hj
            refine wpOp_at (o := _) (rs := _) rfl (fun K hK => ?_)
            refine step_append_ap (by rfl) _ _ 24 (by rfl) (w.heap.size + 2) 48 j0 _ 6 104 Tryd.underlying24 hj0 hy0 hy1 hy2 (by rfl) (by decide) pn i cn cs (by rfl) (own_kept HM7.out.rn (by (repeat (first | assumption | exact Kept.refl _ | apply Kept.drew | apply Kept.alloc)))) _ [.string (sho bb), .int .i64 0, .slice (some ⟨gg, 0, none⟩) (i + 1) cgg, .int .i64 (lw 2 op : Nat), .slice (some ⟨gf, 0, none⟩) i cgf, .slice q2 m2 c2] (by rfl) (by rfl) (news_at (alloc_at _ _)) (fn_one _ _ _ _ _ _ _ _ _ _ _ _) (by unfold maxLen; omega) (by omega) (HM7.out.size_le (by (repeat (first | assumption | exact Kept.refl _ | apply Kept.drew | apply Kept.alloc)))) ?_
            intro gn capn w5 o5 ap5 l5
            have h7 := HM7.out.round HR.out (by (repeat (first | assumption | exact Kept.refl _ | apply Kept.drew | apply Kept.alloc))) (by (repeat (first | assumption | exact Kept.refl _ | apply Kept.drew | apply Kept.alloc))) (sho_size bb) ⟨(by show (0 : Int) ≤ (lw 2 op : Nat); omega), (by show ((lw 2 op : Nat) : Int) ≤ 3; omega)⟩ hb2 o5 ap5 l5
            have HM8 : Hid _ := h7
            have HS5 : Hid (w5.cell? ⟨b, o + i * 6 + 4, none⟩ = some (.string bb) ∧ w5.cell? ⟨b, o + i * 6 + 1, none⟩ = some (.int .i64 op) ∧ w5.cell? ⟨w.heap.size + 1, 0, none⟩ = some (.slice (some ⟨gg, 0, none⟩) (i + 1) cgg) ∧ w5.cell? ⟨w.heap.size + 1, 1, none⟩ = some (.slice (some ⟨gf, 0, none⟩) (i + 1) cgf) ∧ w5.cell? ⟨w.heap.size + 1, 2, none⟩ = some (.slice pn i cn)) := s7_at HBW.out HM7.out.rn (by (repeat (first | assumption | exact Kept.refl _ | apply Kept.drew | apply Kept.alloc))) (HS7.out _ (by (repeat (first | assumption | exact Kept.refl _ | apply Kept.drew | apply Kept.alloc)))) ap5
            have f2 : w5.frozen? ⟨w.heap.size + 1, 2, none⟩ = false := HM7.out.fr (by (repeat (first | assumption | exact Kept.refl _ | apply Kept.drew | apply Kept.alloc))) ap5 2
            clear h7 o5 ap5 l5
            refine hK _ _ ⟨HS5.out, ?_⟩
            clear hK K
            (try simp only [Act.put, List.setIfInBounds_toArray, List.set_cons_zero, List.set_cons_succ])
            refine wpHead_take (i := 27) (g := 1) (oi := _) (rs := _) (v := ?v33) rfl (by kernel_rfl) (fun _ _ _ h => h) (Or.inl ⟨by rfl, ?hy33⟩) HS5.out ?rest33
            case hy33 => (intro W hSw; (try dsimp only at hSw); go_simp; (try with_reducible rfl))
            (try simp only [Act.put, List.setIfInBounds_toArray, List.set_cons_zero, List.set_cons_succ])
            refine ⟨by rfl, ?_⟩
            obtain ⟨_, _, _, _, c2'⟩ := HS5.out
            go_wp2_with fail
            refine NoPanic.normal ?_
            rw [HQ.out]
            exact ⟨rfl, _, _, _, _, _, rfl, rfl, rfl, rfl, rfl, rfl, HM8.out⟩
          · rw [HQ.out]
            rintro ex1 fr1 wd ⟨rfl, tm, gn, cgn, fl', cs', rfl, hsz7, s0, s2, s3, s4, hm8⟩
            clear HQ Qb
            have HM8 : Hid _ := hm8
            clear hm8
            revert tm
            refine lit72 ?_
            intro z0 z1 z2 z3 z4 z5 z6 z7 z8 z9 z10 z11 z12 z13 z14 z15 z16 z17 z18 z19 z20 z21 z22 z23 z24 z25 z26 z27 z28 z29 z30 z31 z32 z33 z34 z35 z36 z37 z38 z39 z40 z41 z42 z43 z44 z45 z46 z47 z48 z49 z50 z51 z52 z53 z54 z55 z56 z57 z58 z59 z60 z61 z62 z63 z64 z65 z66 z67 z68 z69 z70 z71 s0 s2 s3 s4
            have e0 : z0 = .slice (some ⟨b, o, none⟩) n c := s0
            have e2 : z2 = .pointer (some ⟨w.heap.size, 0, none⟩) := s2
            have e3 : z3 = .pointer (some ⟨w.heap.size + 1, 0, none⟩) := s3
            have e4 : z4 = .int .i64 (i : Nat) := s4
            clear s0 s2 s3 s4
            subst e0 e2 e3 e4
            simp only []
            go_wp2
            refine Handed.intro g' (Nat.lt_succ_self g') (hJ _ _ _ ?_)
            exact ⟨_, rfl, rfl, i + 1, _, _, _, _, _, _, _, _, _, _, rfl, rfl, rfl, (show Value.int .i64 ((i : Int) + 1) = .int .i64 ((i + 1 : Nat) : Int) by go_num), by omega, by omega, HM8.out⟩
    · have hT0 : wr.cell? ⟨w.heap.size + 1, 0, none⟩ = some (.slice pg i cg) := by rw [cell_of_row _ _ 0 _ _ _ hM.tr]; rfl
      have hT1 : wr.cell? ⟨w.heap.size + 1, 1, none⟩ = some (.slice pf i cf) := by rw [cell_of_row _ _ 1 _ _ _ hM.tr]; rfl
      have hT2 : wr.cell? ⟨w.heap.size + 1, 2, none⟩ = some (.slice pn i cn) := by rw [cell_of_row _ _ 2 _ _ _ hM.tr]; rfl
      obtain ⟨⟨r0, f0⟩, ⟨r1, f1⟩, ⟨r2, f2⟩, fin⟩ := put3 hM.res (.slice pg i cg) (.slice pf i cf) (.slice pn i cn)
      have HF : Hid _ := fin
      have HI : Hid (i ≤ 4) := by show i ≤ 4; omega
      clear hM fin
      by_cases hc1 : i < n
      · have h1 : (i : Int) < (n : Nat) := by omega
        have h2 : ¬ (i : Int) < 4 := by omega
        clear hb hg hc1
        go_wp2
        refine bodyPost_ret (v := .agg #[.slice pg i cg, .slice pf i cf, .slice pn i cn]) ?_ rfl ⟨pg, pf, pn, i, cg, cf, cn, rfl, ?_⟩
        · exact results_cell_row rfl _ _ w.heap.size 26 _ (0, 0) _ rfl HF.out Tryd.underlying26 rfl sizeTree
        · exact ⟨gs, fs, fl, fun V hV => HM.out.ends (fun k o hk ho => hV k o hk ((set_other3 (by omega) _ _ _).trans ho)), HI.out, HM.out.og, HM.out.of, HM.out.ol, kept_set (kept_set (kept_set HM.out.low (Nat.le_refl _) _) (Nat.le_refl _) _) (Nat.le_refl _) _⟩
      · have h1 : ¬ (i : Int) < (n : Nat) := by omega
        clear hb hg hc1
        go_wp2
        refine bodyPost_ret (v := .agg #[.slice pg i cg, .slice pf i cf, .slice pn i cn]) ?_ rfl ⟨pg, pf, pn, i, cg, cf, cn, rfl, ?_⟩
        · exact results_cell_row rfl _ _ w.heap.size 26 _ (0, 0) _ rfl HF.out Tryd.underlying26 rfl sizeTree
        · exact ⟨gs, fs, fl, fun V hV => HM.out.ends (fun k o hk ho => hV k o hk ((set_other3 (by omega) _ _ _).trans ho)), HI.out, HM.out.og, HM.out.of, HM.out.ol, kept_set (kept_set (kept_set HM.out.low (Nat.le_refl _) _) (Nat.le_refl _) _) (Nat.le_refl _) _⟩
end Go.Proofs.YtgdafolidifdoaaDoor.Tp
