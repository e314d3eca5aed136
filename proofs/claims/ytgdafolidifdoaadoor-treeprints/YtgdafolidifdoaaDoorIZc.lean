/- What made makes: from round to round. Conditions: each row's own. -/
import Derived.Test.YtgdafolidifdoaaDoorIZb
namespace Go.Proofs.YtgdafolidifdoaaDoor.Tp
open Go.ChangeShapes Go.WideShapes Go.ChangeAt Go.RowKit

theorem Md.start (w : World) : Md w 0 0 none 0 [] none 0 [] none 0 [] [] ((w.alloc (.cells #[.slice none 0 0, .slice none 0 0, .slice none 0 0] 26)).alloc (.cells #[.slice none 0 0, .slice none 0 0, .slice none 0 0] 26)) := by
  refine ⟨rfl, rfl, rfl, by simp, by simp, by simp, ((Kept.refl _).alloc _).block (alloc_at w _), ?_, World.ownsRow_nil _ _ _ _, World.ownsRow_nil _ _ _ _, World.ownsRow_nil _ _ _ _, fun k h => (by cases h), fun _ _ => rfl, ((Kept.refl w).alloc _).alloc _⟩
  have h := alloc_at (w.alloc (.cells #[.slice none 0 0, .slice none 0 0, .slice none 0 0] 26)) (.cells #[.slice none 0 0, .slice none 0 0, .slice none 0 0] 26)
  rw [size_alloc] at h
  exact h
theorem Md.size {w : World} {m i : Nat} {pg : Option Addr} {cg : Nat} {gs : List Dc} {pf : Option Addr} {cf : Nat} {fs : List Dc} {pn : Option Addr} {cn : Nat} {fl : List Fc} {cs : List Value} {W : World} (h : Md w m i pg cg gs pf cf fs pn cn fl cs W) : w.heap.size + 2 ≤ W.heap.size := (Array.getElem?_eq_some_iff.1 h.tr).1
theorem Md.caps {w : World} {m i : Nat} {pg : Option Addr} {cg : Nat} {gs : List Dc} {pf : Option Addr} {cf : Nat} {fs : List Dc} {pn : Option Addr} {cn : Nat} {fl : List Fc} {cs : List Value} {W : World} (h : Md w m i pg cg gs pf cf fs pn cn fl cs W) : (m ≤ cg ∧ cg ≤ maxLen) ∧ (m ≤ cf ∧ cf ≤ maxLen) ∧ i ≤ cn ∧ cn ≤ maxLen := by
  obtain ⟨a1, a2, _⟩ := rw_own (by decide) (by decide) h.rg
  obtain ⟨b1, b2, _⟩ := rw_own (by decide) (by decide) h.rf
  obtain ⟨c1, c2, _⟩ := rw_own (by decide) (by decide) h.rn
  exact ⟨⟨a1, a2⟩, ⟨b1, b2⟩, c1, c2⟩
/-- The midst of a round begins. -/
theorem Md.sy {w wr wa : World} {m i : Nat} {pg : Option Addr} {cg : Nat} {gs : List Dc} {pf : Option Addr} {cf : Nat} {fs : List Dc} {pn : Option Addr} {cn : Nat} {fl : List Fc} {cs : List Value} (h : Md w m i pg cg gs pf cf fs pn cn fl cs wr) (k : Kept wr wa) {d : Dc} (hd : wa.heap[wr.heap.size]? = some (.cells (dcc d).toArray 44)) :
    Sy w wr (Lg pg pf m) pg pf (.slice pg m cg) (.slice pf m cf) (.slice pn i cn) d pg m cg gs pf m cf fs wa :=
  ⟨k.block h.res, k.block h.tr, hd, own_kept h.rg k, own_kept h.rf k, h.ne, fun e => by have := (own_row h.rg e).2.1; omega, fun e => by have := (own_row h.rf e).2.1; omega, fun _ _ h => h, fun _ _ h => h, k.dk _ _, h.low.trans k, h.size⟩
/-- One declaration more in both rows. -/
theorem Md.six {w wr W : World} {m i : Nat} {pg : Option Addr} {cg : Nat} {gs : List Dc} {pf : Option Addr} {cf : Nat} {fs : List Dc} {pn : Option Addr} {cn : Nat} {fl : List Fc} {cs : List Value} (h : Md w m i pg cg gs pf cf fs pn cn fl cs wr) {d : Dc} (hd : d.n.size ≤ 6 ∧ 0 ≤ d.t ∧ d.t ≤ 3) {A B : Value} {pg1 pf1 : Option Addr} {cg1 cf1 : Nat}
    (s : Sy w wr (Lg pg pf m) pg pf A B (.slice pn i cn) d pg1 (m + 1) cg1 (gs ++ [d]) pf1 (m + 1) cf1 (fs ++ [d]) W) :
    Md w (m + 1) i pg1 cg1 (gs ++ [d]) pf1 cf1 (fs ++ [d]) pn cn fl cs ((W.setCell ⟨w.heap.size + 1, 0, none⟩ (.slice pg1 (m + 1) cg1)).setCell ⟨w.heap.size + 1, 1, none⟩ (.slice pf1 (m + 1) cf1)) := by
  have hT : ¬ w.heap.size + 2 ≤ w.heap.size + 1 := by omega
  have gr := grown_set (grown_set (grown_refl W (w.heap.size + 1)) 0 (.slice pg1 (m + 1) cg1)) 1 (.slice pf1 (m + 1) cf1)
  have D1 : Dk (fun k => w.heap.size + 2 ≤ k) (Lg pg pf m) wr ((W.setCell ⟨w.heap.size + 1, 0, none⟩ (.slice pg1 (m + 1) cg1)).setCell ⟨w.heap.size + 1, 1, none⟩ (.slice pf1 (m + 1) cf1)) := (s.dk.trans (Dk.set _ hT)).trans (Dk.set _ hT)
  have own : ∀ {p : Option Addr} {n c e sz : Nat} {xs : List Value}, W.ownsRow (w.heap.size + 2) e sz (.slice p n c) n xs → ((W.setCell ⟨w.heap.size + 1, 0, none⟩ (.slice pg1 (m + 1) cg1)).setCell ⟨w.heap.size + 1, 1, none⟩ (.slice pf1 (m + 1) cf1)).ownsRow (w.heap.size + 2) e sz (.slice p n c) n xs := fun {p n c e sz xs} o => o.kept gr (by
    rw [ob_map]
    cases hp : p.map Addr.block with
    | none => exact .inl rfl
    | some j => exact .inr (fun e => by injection e with e; have := (own_row o hp.symm).1; omega))
  refine ⟨by simp [h.lg], by simp [h.lf], h.ln, fun x hx => ?_, fun x hx => ?_, h.ol, ?_, ?_, own s.og, own s.of, own_kp h.rn (by decide) (fun _ hj => hj) (D1.kp (fun _ _ hj => hj)), s.ne, fun W' hW => h.out W' (Dk.step (D1.mono fun k _ hk => ⟨hk.1, fun _ hj => hj⟩) hW fun k hk hp => ⟨hp, fun j hj hor => ?_⟩), (s.low.setCell (p := ⟨w.heap.size + 1, 0, none⟩) (Nat.le_succ _) _).setCell (p := ⟨w.heap.size + 1, 1, none⟩) (Nat.le_succ _) _⟩
  · rcases List.mem_append.1 hx with hx | hx
    · exact h.og x hx
    · rw [List.mem_singleton.1 hx]; exact hd
  · rcases List.mem_append.1 hx with hx | hx
    · exact h.of x hx
    · rw [List.mem_singleton.1 hx]; exact hd
  · rw [heap_setCell_other _ ⟨w.heap.size + 1, 1, none⟩ w.heap.size _ (by show w.heap.size ≠ w.heap.size + 1; omega), heap_setCell_other _ ⟨w.heap.size + 1, 0, none⟩ w.heap.size _ (by show w.heap.size ≠ w.heap.size + 1; omega)]
    exact s.rs
  · have h0 : (W.setCell ⟨w.heap.size + 1, 0, none⟩ (.slice pg1 (m + 1) cg1)).heap[w.heap.size + 1]? = some (.cells #[.slice pg1 (m + 1) cg1, B, .slice pn i cn] 26) := by
      rw [heap_setCell_same _ (w.heap.size + 1) 0 _ _ _ s.tr]; rfl
    rw [heap_setCell_same _ (w.heap.size + 1) 1 _ _ _ h0]; rfl
  · have := hj (hor.imp (s.bg k hk) (s.bf k hk))
    rw [Nat.add_mul]
    omega
/-- One function more. -/
theorem Md.seven {w wb wc w2 W w5 : World} {m i : Nat} {pg : Option Addr} {cg : Nat} {gs : List Dc} {pf : Option Addr} {cf : Nat} {fs : List Dc} {pn : Option Addr} {cn : Nat} {fl : List Fc} {cs : List Value} (h : Md w m i pg cg gs pf cf fs pn cn fl cs wb) (hm : i ≤ m) (hk : Kept wb W) (hwc : wb.heap.size ≤ wc.heap.size) (hk2 : Kept w2 W)
    {pb : Option Addr} {nb cb : Nat} {s : Sts} (hs : ∀ V, Kp (wc.heap.size ≤ ·) w2 V → Sl V pb nb cb s) {fn : ByteArray} {ret : Int} (hf : Fok ⟨fn, 0, gs, ret, fs.take i, s⟩ ∧ (∀ d ∈ gs, I64 d.t) ∧ ∀ d ∈ fs.take i, I64 d.t) {g cn' : Nat}
    (o5 : w5.ownsRow (w.heap.size + 2) 48 6 (.slice (some ⟨g, 0, none⟩) (i + 1) cn') (i + 1) (cs ++ [.string fn, .int .i64 0, .slice pg m cg, .int .i64 ret, .slice pf i cf, .slice pb nb cb])) (ap : Ap W w5 (pn.map Addr.block) (i * 6)) (l : pn.map Addr.block = some g ∨ W.heap.size ≤ g) :
    Md w m (i + 1) pg cg gs pf cf fs (some ⟨g, 0, none⟩) cn' (fl ++ [⟨fn, 0, gs, ret, fs.take i, s⟩]) (cs ++ [.string fn, .int .i64 0, .slice pg m cg, .int .i64 ret, .slice pf i cf, .slice pb nb cb]) (w5.setCell ⟨w.heap.size + 1, 2, none⟩ (.slice (some ⟨g, 0, none⟩) (i + 1) cn')) := by
  have hT : ∀ {p : Option Addr} {n c e sz : Nat} {xs : List Value} {V : World}, V.ownsRow (w.heap.size + 2) e sz (.slice p n c) n xs → ∀ k, some k = p.map Addr.block → w.heap.size + 2 ≤ k := fun o k hk => (own_row o hk).1
  have gr := grown_set (grown_refl w5 (w.heap.size + 1)) 2 (.slice (some ⟨g, 0, none⟩) (i + 1) cn')
  have own : ∀ {p : Option Addr} {n c e sz : Nat} {xs : List Value}, w5.ownsRow (w.heap.size + 2) e sz (.slice p n c) n xs → (w5.setCell ⟨w.heap.size + 1, 2, none⟩ (.slice (some ⟨g, 0, none⟩) (i + 1) cn')).ownsRow (w.heap.size + 2) e sz (.slice p n c) n xs := fun {p n c e sz xs} o => o.kept gr (by
    rw [ob_map]
    cases hp : p.map Addr.block with
    | none => exact .inl rfl
    | some j => exact .inr (fun e => by injection e with e; have := hT o j hp.symm; omega))
  have hty : ∀ {p : Option Addr} {n c : Nat} {xs : List Value}, wb.ownsRow (w.heap.size + 2) 44 3 (.slice p n c) n xs → ∀ k, some k = p.map Addr.block → some k ≠ pn.map Addr.block := fun o k h1 h2 => by
    obtain ⟨_, _, c1, e1⟩ := own_row o h1
    obtain ⟨_, _, c2, e2⟩ := own_row h.rn h2
    rw [e1] at e2
    injection e2 with e2
    injection e2 with _ e2 _
    exact absurd e2 (by decide)
  have hsz := hk.size
  have hs2 := hk2.size
  have hwb := h.size
  have hpn : ∀ k, some k = pn.map Addr.block → k < wb.heap.size := fun k hk => (own_row h.rn hk).2.1
  have hg' : ∀ k, k < W.heap.size → some k ≠ pn.map Addr.block → some k ≠ (some (⟨g, 0, none⟩ : Addr)).map Addr.block := fun k hk hn e => by
    simp only [Option.map_some, Option.some.injEq] at e
    subst e
    rcases l with l | l
    · exact hn l.symm
    · omega
  have D : ∀ W', Dk (fun k => w.heap.size + 2 ≤ k ∧ some k ≠ (some (⟨g, 0, none⟩ : Addr)).map Addr.block) (Lg pg pf m) (w5.setCell ⟨w.heap.size + 1, 2, none⟩ (.slice (some ⟨g, 0, none⟩) (i + 1) cn')) W' → Dk (fun k => w.heap.size + 2 ≤ k ∧ some k ≠ pn.map Addr.block) (Lg pg pf m) wb W' := fun W' hW =>
    Dk.step (((hk.dk _ _).trans (ap.dk (fun k cs t fz hp hr _ => absurd hr hp.2) (fun k j hp hr _ => absurd hr hp.2))).trans (Dk.set _ (fun hp => absurd hp.1 (by omega)))) hW fun k hk1 hp => ⟨⟨hp.1, hg' k (by omega) hp.2⟩, fun _ hj => hj⟩
  refine ⟨h.lg, h.lf, by simp [h.ln], h.og, h.of, fun f hfm => ?_, ?_, ?_, own (own_ap (own_kept h.rg hk) ap (hty h.rg)), own (own_ap (own_kept h.rf hk) ap (hty h.rf)), own o5, h.ne, fun W' hW => ?_, ?_⟩
  · rcases List.mem_append.1 hfm with hfm | hfm
    · exact h.ol f hfm
    · rw [List.mem_singleton.1 hfm]; exact hf
  · rw [heap_setCell_other _ ⟨w.heap.size + 1, 2, none⟩ w.heap.size _ (by show w.heap.size ≠ w.heap.size + 1; omega)]
    exact ap.other (hk.block h.res) (fun e => by have := hT h.rn _ e; omega)
  · rw [heap_setCell_same _ (w.heap.size + 1) 2 _ _ _ (ap.other (hk.block h.tr) (fun e => by have := hT h.rn _ e; omega))]; rfl
  · refine Fr6.snoc ⟨pg, m, cg, pf, i, cf, pb, nb, cb, rfl, ?_, ?_, ?_⟩ fl cs (h.out W' (D W' hW))
    · exact dl_dk h.rg h.lg (D W' hW) (fun b hb => ⟨hT h.rg b hb, hty h.rg b hb⟩) (fun b j _ hj _ => hj)
    · exact (dl_dk h.rf h.lf (D W' hW) (fun b hb => ⟨hT h.rf b hb, hty h.rf b hb⟩) (fun b j _ hj _ => hj)).head i hm
    · refine hs W' ⟨fun k cs t fz hk1 hc ht => ?_⟩
      have hk1' : wc.heap.size ≤ k := hk1
      have hkl := (Array.getElem?_eq_some_iff.1 hc).1
      have hn : some k ≠ pn.map Addr.block := fun e => by have := hpn k e; omega
      have h6 : (w5.setCell ⟨w.heap.size + 1, 2, none⟩ (.slice (some ⟨g, 0, none⟩) (i + 1) cn')).heap[k]? = some (.cells cs t fz) := by
        rw [heap_setCell_other _ ⟨w.heap.size + 1, 2, none⟩ k _ (by show k ≠ w.heap.size + 1; omega)]
        exact ap.other (hk2.block hc) hn
      obtain ⟨c1, e1, e2, _⟩ := hW.out k cs t fz ⟨by omega, hg' k (by omega) hn⟩ h6
      rw [e1, e2 ht]
  · refine Kept.setCell (p := ⟨w.heap.size + 1, 2, none⟩) ?_ (Nat.le_succ _) _
    exact ⟨(h.low.trans hk).out.grown ap.grown (h.low.trans hk).size (fun k hk => by have := hT h.rn k hk.symm; omega)⟩
/-- What is handed back. -/
theorem Md.ends {w wx W : World} {i : Nat} {pg : Option Addr} {cg : Nat} {gs : List Dc} {pf : Option Addr} {cf : Nat} {fs : List Dc} {pn : Option Addr} {cn : Nat} {fl : List Fc} {cs : List Value} (h : Md w i i pg cg gs pf cf fs pn cn fl cs wx) (hW : ∀ k o, w.heap.size + 2 ≤ k → wx.heap[k]? = some o → W.heap[k]? = some o) :
    Dl W pg i cg gs ∧ Dl W pf i cf fs ∧ Fl W pn i cn fl := by
  have K : ∀ (p : Nat → Prop) (L : Nat → Nat → Prop), (∀ k, p k → w.heap.size + 2 ≤ k) → Dk p L wx W := fun p L hp => ⟨fun k cs _ _ h0 h1 => ⟨cs, hW k _ (hp k h0) h1, fun _ => rfl, fun _ _ => rfl⟩⟩
  have hT : ∀ {p : Option Addr} {n c e sz : Nat} {xs : List Value}, wx.ownsRow (w.heap.size + 2) e sz (.slice p n c) n xs → ∀ k, some k = p.map Addr.block → w.heap.size + 2 ≤ k := fun o k hk => (own_row o hk).1
  obtain ⟨a1, a2, a3⟩ := rw_own (by decide) (by decide) (own_kp h.rn (by decide) (fun _ hj => hj) ((K (fun k => w.heap.size + 2 ≤ k) (fun _ _ => True) (fun _ h => h)).kp (fun _ _ hj => hj)))
  exact ⟨dl_dk h.rg h.lg (K _ (fun _ _ => True) (fun _ h => h)) (hT h.rg) (fun _ _ _ _ => trivial), dl_dk h.rf h.lf (K _ (fun _ _ => True) (fun _ h => h)) (hT h.rf) (fun _ _ _ _ => trivial), ⟨h.ln, a1, a2, cs, h.out W (K _ _ (fun _ h => h.1)), a3⟩⟩
end Go.Proofs.YtgdafolidifdoaaDoor.Tp
