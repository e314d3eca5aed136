/- What stmts makes: how statements stay in memory while more is made; one statement more. Conditions: each row's own. -/
import Derived.Test.YtgdafolidifdoaaDoorIX0
import Derived.Test.YtgdafolidifdoaaDoorIN
import Derived.Laws.CopyOwn
namespace Go.Proofs.YtgdafolidifdoaaDoor.Tp
open Go.ChangeShapes Go.WideShapes Go.ChangeAt Go.RowKit

theorem infoS : (Tryd.prog.info? 67).map (fun i => (i.zero, i.size, i.bytes)) = some (some (.agg #[.int .i64 0, .int .i64 0, .string ⟨#[]⟩, .string ⟨#[]⟩, .string ⟨#[]⟩, .int .i64 0, .string ⟨#[]⟩, .string ⟨#[]⟩, .int .i64 0, .int .i64 0, .slice none 0 0, .slice none 0 0, .slice none 0 0]), 13, 192) := by kernel_rfl
theorem size67 : (Tryd.prog.info? 67).map (·.size) = some 13 := by kernel_rfl
/-- These blocks stay, but those of declarations. -/
structure Kp (p : Nat → Prop) (W W' : World) : Prop where
  out : ∀ (k : Nat) (cs : Array Value) (t : TypeId) (fz : Nat × Nat), p k → W.heap[k]? = some (.cells cs t fz) → t ≠ 44 → W'.heap[k]? = some (.cells cs t fz)
theorem Kp.refl (p : Nat → Prop) (W : World) : Kp p W W := ⟨fun _ _ _ _ _ h _ => h⟩
theorem Kp.trans {p : Nat → Prop} {a b c : World} (h : Kp p a b) (k : Kp p b c) : Kp p a c := ⟨fun i cs t fz h0 h1 h2 => k.out i cs t fz h0 (h.out i cs t fz h0 h1 h2) h2⟩
theorem Kept.kp {W W' : World} (h : Kept W W') (p : Nat → Prop) : Kp p W W' := ⟨fun _ _ _ _ _ h1 _ => h.block h1⟩
theorem Kp.step {p p' : Nat → Prop} {W0 W1 : World} {P : World → Prop} (h : ∀ W', Kp p W0 W' → P W') (k : Kp p W0 W1) (hp : ∀ j, j < W0.heap.size → p j → p' j) : ∀ W', Kp p' W1 W' → P W' :=
  fun W' h' => h W' ⟨fun j cs t fz h0 h1 h2 => h'.out j cs t fz (hp j (Array.getElem?_eq_some_iff.1 h1).1 h0) (k.out j cs t fz h0 h1 h2) h2⟩
theorem own_kp {w w' : World} {B e sz n c : Nat} {p : Option Addr} {cs : List Value} {q : Nat → Prop} (k : w.ownsRow B e sz (.slice p n c) n cs) (he : e ≠ 44) (hq : ∀ j, B ≤ j → q j) (h : Kp q w w') : w'.ownsRow B e sz (.slice p n c) n cs := by
  refine ⟨k.1, ?_⟩
  rcases k.2 with h1 | ⟨g, cap, cur, h3, hB, hg, hr⟩
  · exact .inl h1
  · exact .inr ⟨g, cap, cur, h3, hB, h.out _ _ _ _ (hq _ hB) hg he, hr⟩
/-- Statements within a statement: they stay while these blocks do. -/
structure Ba (p : Nat → Prop) (W : World) (q : Option Addr) (n c : Nat) (s : Sts) (d : Nat) : Prop where
  out : ∀ W', Kp p W W' → Sl W' q n c s
  ok : s.Ok
  dp : s.dp ≤ d
  sz : 2 * s.sz + 1 ≤ Cst d
theorem Ba.stay {p p' : Nat → Prop} {W W' : World} {q : Option Addr} {n c : Nat} {s : Sts} {d : Nat} (h : Ba p W q n c s d) (k : Kp p W W') (hp : ∀ j, j < W.heap.size → p j → p' j) : Ba p' W' q n c s d := ⟨Kp.step h.out k hp, h.ok, h.dp, h.sz⟩
theorem cst_pos : ∀ d, 1 ≤ Cst d
  | 0 => Nat.le_refl _
  | d + 1 => by simp only [Cst]; omega
theorem ba_nil (p : Nat → Prop) (W : World) (d : Nat) : Ba p W none 0 0 .nil d := ⟨fun V _ => sl_nil V none 0 (Nat.zero_le _), trivial, Nat.zero_le _, cst_pos d⟩
theorem kept_set {v w : World} (h : Kept v w) {g j : Nat} (hg : v.heap.size ≤ g) (u : Value) : Kept v (w.setCell ⟨g, j, none⟩ u) := h.setCell (p := ⟨g, j, none⟩) hg u
theorem owns_shape' {w : World} {base e size : Nat} {v : Value} {n : Nat} {xs : List Value} (h : w.ownsRow base e size v n xs) : ∃ p cap, v = .slice p n cap := by
  rcases h.2 with ⟨rfl, rfl⟩ | ⟨g, cap, cur, rfl, _⟩
  · exact ⟨_, _, rfl⟩
  · exact ⟨_, _, rfl⟩
theorem app_ok (s t : Sts) (h : s.Ok) (k : t.Ok) : (s.app t).Ok := by
  induction s using Sts.ind with
  | nil => exact k
  | one k' pos to fd fr e bo el r _ _ ih =>
    rw [Sts.ok_one] at h
    obtain ⟨h1, h2, h3, h4, h5, h6, h7⟩ := h
    rw [Sts.app_one, Sts.ok_one]
    exact ⟨h1, h2, h3, h4, h5, h6, ih h7⟩
theorem app_dp (s t : Sts) (d : Nat) (h : s.dp ≤ d) (k : t.dp ≤ d) : (s.app t).dp ≤ d := by
  induction s using Sts.ind with
  | nil => exact k
  | one k' pos to fd fr e bo el r _ _ ih =>
    rw [Sts.dp_one] at h
    have := ih (by omega)
    rw [Sts.app_one, Sts.dp_one]
    omega
theorem app_sz (s t : Sts) : (s.app t).sz = s.sz + t.sz := by
  induction s using Sts.ind with
  | nil => rw [Sts.nil_app, Sts.sz_nil, Nat.zero_add]
  | one k' pos to fd fr e bo el r _ _ ih =>
    rw [Sts.app_one, Sts.sz_one, Sts.sz_one, ih]
    omega
/-- What is asked of stmts. -/
def Mk (deep : Nat) : Prop := ∀ (w : World) (p : Option Addr) (n c : Nat) (l : List Ev), Es w p n c l → Calls Tryd.prog 19 #[.slice p n c, .int .i64 (deep : Nat)] w fun x w' => ∃ q m cc s, x = .returned (.slice q m cc) ∧ (∀ W', Kp (w.heap.size ≤ ·) w' W' → Sl W' q m cc s) ∧ s.Ok ∧ s.dp ≤ deep + 1 ∧ s.sz ≤ 10 * Cst deep ∧ Kept w w'
/-- The statements so far. -/
structure Sofar (w : World) (deep i : Nat) (q : Option Addr) (cc : Nat) (acc : Sts) (cs : List Value) (wx : World) : Prop where
  len : acc.len = i
  ok : acc.Ok
  dp : acc.dp ≤ deep + 1
  sz : acc.sz ≤ i * Cst deep
  own : wx.ownsRow w.heap.size 67 13 (.slice q i cc) i cs
  out : ∀ W', Kp (fun k => w.heap.size ≤ k ∧ some k ≠ q.map Addr.block) wx W' → Sc W' acc cs
  low : Kept w wx
theorem Sofar.start (w : World) (deep : Nat) : Sofar w deep 0 (some ⟨w.heap.size, 0, none⟩) 0 .nil [] (w.alloc (.cells #[] 67)) :=
  ⟨rfl, trivial, Nat.zero_le _, Nat.zero_le _, World.ownsRow_made w #[] 0 (Nat.le_refl _) (Nat.zero_le _) rfl, fun _ _ => by rw [sc_nil], (Kept.refl w).alloc _⟩
theorem Sofar.ends {w : World} {deep i : Nat} {q : Option Addr} {cc : Nat} {acc : Sts} {cs : List Value} {wx : World} (h : Sofar w deep i q cc acc cs wx) (hi : i ≤ 10) : ∃ s, (∀ W', Kp (w.heap.size ≤ ·) wx W' → Sl W' q i cc s) ∧ s.Ok ∧ s.dp ≤ deep + 1 ∧ s.sz ≤ 10 * Cst deep ∧ Kept w wx := by
  refine ⟨acc, fun V hV => ?_, h.ok, h.dp, Nat.le_trans h.sz (Nat.mul_le_mul_right _ hi), h.low⟩
  obtain ⟨a1, a2, a3⟩ := rw_own (by decide) (by decide) (own_kp h.own (by decide) (fun _ h => h) hV)
  exact ⟨h.len.symm, a1, a2, cs, h.out V ⟨fun k cs t fz h0 => hV.out k cs t fz h0.1⟩, a3⟩
theorem Sofar.cap {w : World} {deep i : Nat} {q : Option Addr} {cc : Nat} {acc : Sts} {cs : List Value} {wx : World} (h : Sofar w deep i q cc acc cs wx) : i ≤ cc ∧ cc ≤ maxLen := by
  obtain ⟨a1, a2, _⟩ := rw_own (by decide) (by decide) h.own
  exact ⟨a1, a2⟩
theorem Sofar.stay {w : World} {deep i : Nat} {q : Option Addr} {cc : Nat} {acc : Sts} {cs : List Value} {wx wy : World} (h : Sofar w deep i q cc acc cs wx) (k : Kept wx wy) : Sofar w deep i q cc acc cs wy :=
  ⟨h.len, h.ok, h.dp, h.sz, own_kept h.own k, fun V hV => h.out V ((k.kp _).trans hV), h.low.trans k⟩
/-- A statement in its block. -/
structure Stm (wr : World) (e : Ev) (i : Nat) (b h : Nat) (pa : Option Addr) (ca : Nat) (pb : Option Addr) (nb cb : Nat) (pe : Option Addr) (ne ce : Nat) (W : World) : Prop where
  hb : wr.heap.size ≤ b
  hh : wr.heap.size ≤ h
  nbh : b ≠ h
  ec : W.heap[b]? = some (.cells (ev e) 32)
  ay : ∀ W', Kp (fun k => wr.heap.size ≤ k ∧ k ≠ h) W W' → Ay W' pa (lw 2 e.m) ca (List.replicate (lw 2 e.m) (sho e.b))
  row : W.heap[h]? = some (.cells (stc (lw 4 e.m : Nat) (i : Nat) (sho e.a) (sho e.b) (sho e.a) (mx e) pa (lw 2 e.m) ca pb nb cb pe ne ce).toArray 67)
  low : Kept wr W
theorem own_base {w : World} {B B' e sz n : Nat} {v : Value} {cs : List Value} (h : w.ownsRow B e sz v n cs) (hb : B' ≤ B) : w.ownsRow B' e sz v n cs := by
  refine ⟨h.1, ?_⟩
  rcases h.2 with h1 | ⟨g, cap, cur, h3, hB, hr⟩
  · exact .inl h1
  · exact .inr ⟨g, cap, cur, h3, Nat.le_trans hb hB, hr⟩
theorem own_from {wr Wc w3 : World} {o : Obj} {e sz n : Nat} {v : Value} {cs : List Value} (k : Kept (wr.alloc o) Wc) (h : w3.ownsRow (Wc.heap.size + 3) e sz v n cs) : w3.ownsRow (wr.heap.size + 2) e sz v n cs :=
  own_base h (by have := k.size; rw [size_alloc] at this; omega)
theorem arg_own {w3 : World} {B : Nat} {pa : Option Addr} {n ca : Nat} {l : List ByteArray} (hay : w3.ownsRow B 9 1 (.slice pa n ca) n (sc l)) : ∀ W', Kp (B ≤ ·) w3 W' → Ay W' pa n ca l :=
  fun _ hW => ay_own (own_kp hay (by decide) (fun _ h => h) hW)
/-- The statement's block is made behind its expression .. -/
theorem stm_late {wr w3 : World} {e : Ev} {i : Nat} {pa : Option Addr} {ca : Nat} (hk : Kept (wr.alloc (.cells (ev e) 32)) w3) (hay : w3.ownsRow (wr.heap.size + 2) 9 1 (.slice pa (lw 2 e.m) ca) (lw 2 e.m) (sc (List.replicate (lw 2 e.m) (sho e.b)))) :
    Stm wr e i wr.heap.size w3.heap.size pa ca none 0 0 none 0 0 (w3.alloc (.cells (stc (lw 4 e.m : Nat) (i : Nat) (sho e.a) (sho e.b) (sho e.a) (mx e) pa (lw 2 e.m) ca none 0 0 none 0 0).toArray 67)) := by
  have hs := hk.size
  rw [size_alloc] at hs
  exact ⟨Nat.le_refl _, by omega, by omega, ((Kept.refl w3).alloc _).block (hk.block (alloc_at wr _)), Kp.step (arg_own hay) (((Kept.refl w3).alloc _).kp _) (fun j h1 h2 => ⟨by omega, by omega⟩), alloc_at w3 _, (((Kept.refl wr).alloc _).trans hk).alloc _⟩
/-- .. or ahead of it. -/
theorem stm_early {wr w3 W : World} {e : Ev} {i : Nat} {pa : Option Addr} {ca : Nat} (hk : Kept (wr.alloc (.cells (ev e) 32)) w3) (hay : w3.ownsRow (wr.heap.size + 2) 9 1 (.slice pa (lw 2 e.m) ca) (lw 2 e.m) (sc (List.replicate (lw 2 e.m) (sho e.b))))
    (hW : ∀ g, g ≠ wr.heap.size + 1 → W.heap[g]? = w3.heap[g]?) (hc : W.heap[wr.heap.size + 1]? = some (.cells (stc (lw 4 e.m : Nat) (i : Nat) (sho e.a) (sho e.b) (sho e.a) (mx e) pa (lw 2 e.m) ca none 0 0 none 0 0).toArray 67)) (hk2 : Kept wr W) :
    Stm wr e i wr.heap.size (wr.heap.size + 1) pa ca none 0 0 none 0 0 W := by
  exact ⟨Nat.le_refl _, by omega, by omega, (hW _ (by omega)).trans (hk.block (alloc_at wr _)), Kp.step (arg_own hay) ⟨fun k _ _ _ h1 h2 _ => (hW k (by omega)).trans h2⟩ (fun j h1 h2 => ⟨by omega, by omega⟩), hc, hk2⟩
theorem Stm.cells {wr W : World} {e : Ev} {i b h : Nat} {pa : Option Addr} {ca : Nat} {pb : Option Addr} {nb cb : Nat} {pe : Option Addr} {ne ce : Nat} (st : Stm wr e i b h pa ca pb nb cb pe ne ce W) {w2 : World} (hk : Kept W w2) :
    (w2.cell? ⟨h, 11, none⟩ = some (.slice pb nb cb) ∧ w2.frozen? ⟨h, 11, none⟩ = false) ∧ w2.cell? ⟨h, 12, none⟩ = some (.slice pe ne ce) ∧ w2.frozen? ⟨h, 12, none⟩ = false :=
  ⟨⟨by rw [cell_of_row _ _ 11 _ _ _ (hk.block st.row)]; rfl, frozen_of_row _ _ 11 _ _ (hk.block st.row)⟩, by rw [cell_of_row _ _ 12 _ _ _ (hk.block st.row)]; rfl, frozen_of_row _ _ 12 _ _ (hk.block st.row)⟩
theorem kp_set {wr W w2 : World} {h j : Nat} (hk : Kept W w2) (v : Value) : Kp (fun k => wr.heap.size ≤ k ∧ k ≠ h) W (w2.setCell ⟨h, j, none⟩ v) :=
  ⟨fun k _ _ _ h1 h2 _ => (heap_setCell_other w2 ⟨h, j, none⟩ k v h1.2).trans (hk.block h2)⟩
theorem Stm.setB {wr W : World} {e : Ev} {i b h : Nat} {pa : Option Addr} {ca : Nat} {pe : Option Addr} {ne ce : Nat} (st : Stm wr e i b h pa ca none 0 0 pe ne ce W) {w2 : World} (hk : Kept W w2) (q : Option Addr) (m c : Nat) :
    Stm wr e i b h pa ca q m c pe ne ce (w2.setCell ⟨h, 11, none⟩ (.slice q m c)) :=
  ⟨st.hb, st.hh, st.nbh, (heap_setCell_other w2 ⟨h, 11, none⟩ b _ st.nbh).trans (hk.block st.ec), Kp.step st.ay (kp_set hk _) (fun _ _ h => h), by rw [heap_setCell_same _ h 11 _ _ _ (hk.block st.row)]; rfl, (st.low.trans hk).setCell (p := ⟨h, 11, none⟩) st.hh _⟩
theorem Stm.setE {wr W : World} {e : Ev} {i b h : Nat} {pa : Option Addr} {ca : Nat} {pb : Option Addr} {nb cb : Nat} (st : Stm wr e i b h pa ca pb nb cb none 0 0 W) {w2 : World} (hk : Kept W w2) (q : Option Addr) (m c : Nat) :
    Stm wr e i b h pa ca pb nb cb q m c (w2.setCell ⟨h, 12, none⟩ (.slice q m c)) :=
  ⟨st.hb, st.hh, st.nbh, (heap_setCell_other w2 ⟨h, 12, none⟩ b _ st.nbh).trans (hk.block st.ec), Kp.step st.ay (kp_set hk _) (fun _ _ h => h), by rw [heap_setCell_same _ h 12 _ _ _ (hk.block st.row)]; rfl, (st.low.trans hk).setCell (p := ⟨h, 12, none⟩) st.hh _⟩
/-- What stmts gives, as a statement's own. -/
theorem ba_of {wr W w2 : World} {h j d : Nat} (hW : h < W.heap.size) (hwr : wr.heap.size ≤ W.heap.size) {q : Option Addr} {m c : Nat} {s : Sts} (hs : ∀ W', Kp (W.heap.size ≤ ·) w2 W' → Sl W' q m c s) (hok : s.Ok) (hdp : s.dp ≤ d + 1) (hsz : s.sz ≤ 10 * Cst d) (v : Value) :
    Ba (fun k => wr.heap.size ≤ k ∧ k ≠ h) (w2.setCell ⟨h, j, none⟩ v) q m c s (d + 1) :=
  ⟨Kp.step hs ⟨fun k _ _ _ h1 h2 _ => (heap_setCell_other w2 ⟨h, j, none⟩ k v (by have h1' : W.heap.size ≤ k := h1; show k ≠ h; omega)).trans h2⟩ (fun k _ h1 => ⟨by have h1' : W.heap.size ≤ k := h1; omega, by have h1' : W.heap.size ≤ k := h1; omega⟩), hok, hdp, by simp only [Cst]; omega⟩
theorem Stm.lt {wr W : World} {e : Ev} {i b h : Nat} {pa : Option Addr} {ca : Nat} {pb : Option Addr} {nb cb : Nat} {pe : Option Addr} {ne ce : Nat} (st : Stm wr e i b h pa ca pb nb cb pe ne ce W) : h < W.heap.size := (Array.getElem?_eq_some_iff.1 st.row).1
theorem stc_one (k pos : Int) (to fd fr : ByteArray) (e : Ex) (pa : Option Addr) (na ca : Nat) (pb : Option Addr) (nb cb : Nat) (pe : Option Addr) (ne ce : Nat) : ∀ u ∈ stc k pos to fd fr e pa na ca pb nb cb pe ne ce, u.oneCell' = true := by
  intro u hu
  simp [stc] at hu
  rcases hu with rfl | rfl | rfl | rfl | rfl | rfl | rfl | rfl | rfl | rfl | rfl | rfl | rfl <;> rfl
/-- One statement more. -/
theorem Sofar.more {w wr W w5 : World} {deep i : Nat} {q : Option Addr} {cc : Nat} {acc : Sts} {cs : List Value} (h : Sofar w deep i q cc acc cs wr) {e : Ev} (he : Okv e) {b g : Nat} {pa : Option Addr} {ca : Nat} {pb : Option Addr} {nb cb : Nat} {pe : Option Addr} {ne ce : Nat} (st : Stm wr e i b g pa ca pb nb cb pe ne ce W)
    {sb se : Sts} (hb : Ba (fun k => wr.heap.size ≤ k ∧ k ≠ g) W pb nb cb sb deep) (hel : Ba (fun k => wr.heap.size ≤ k ∧ k ≠ g) W pe ne ce se deep) {o : Obj} {q' : Option Addr} {cc' : Nat}
    (o5 : w5.ownsRow w.heap.size 67 13 (.slice q' (i + 1) cc') (i + 1) (cs ++ stc (lw 4 e.m : Nat) (i : Nat) (sho e.a) (sho e.b) (sho e.a) (mx e) pa (lw 2 e.m) ca pb nb cb pe ne ce))
    (g5 : (W.alloc o).grownBy w5 (Value.slice q i cc).ownBlock) (n5 : (Value.slice q' (i + 1) cc').ownBlock = (Value.slice q i cc).ownBlock ∨ (Value.slice q' (i + 1) cc').ownBlock = some (W.alloc o).heap.size) :
    ∃ acc' cs', Sofar w deep (i + 1) q' cc' acc' cs' w5 := by
  have ob : ∀ (p : Option Addr) (n c : Nat), (Value.slice p n c).ownBlock = p.map Addr.block := fun p n c => by cases p <;> rfl
  rw [ob] at g5
  rw [ob, ob, size_alloc] at n5
  have hsW := st.low.size
  have A : ∀ W', Kp (fun k => w.heap.size ≤ k ∧ some k ≠ q'.map Addr.block) w5 W' → ∀ (k : Nat) (cs : Array Value) (t : TypeId) (fz : Nat × Nat), w.heap.size ≤ k → some k ≠ q.map Addr.block → W.heap[k]? = some (.cells cs t fz) → t ≠ 44 → W'.heap[k]? = some (.cells cs t fz) := fun W' hW k cs t fz hk hq hc ht => by
    have hl := (Array.getElem?_eq_some_iff.1 hc).1
    refine hW.out k cs t fz ⟨hk, ?_⟩ ?_ ht
    · rcases n5 with n5 | n5
      · rw [n5]; exact hq
      · rw [n5]; intro e; injection e with e; omega
    · rw [g5.block k (by rw [size_alloc]; omega) hq]
      exact ((Kept.refl W).alloc o).block hc
  have hgl : ∀ k, wr.heap.size ≤ k → some k ≠ q.map Addr.block := fun k hk e => by
    have := (h.own.lt k (by rw [ob]; exact e.symm)).2
    omega
  have hlow := h.low.size
  have B : ∀ W', Kp (fun k => w.heap.size ≤ k ∧ some k ≠ q'.map Addr.block) w5 W' → Kp (fun k => wr.heap.size ≤ k ∧ k ≠ g) W W' := fun W' hW => ⟨fun k cs t fz hk hc ht => A W' hW k cs t fz (Nat.le_trans hlow hk.1) (hgl k hk.1) hc ht⟩
  refine ⟨acc.app (.one (lw 4 e.m : Nat) (i : Nat) (sho e.a) (sho e.b) (sho e.a) (mx e) sb se .nil), _, ⟨?_, ?_, ?_, ?_, o5, fun W' hW => ?_, ?_⟩⟩
  · rw [Sts.len_app, h.len]; rfl
  · exact app_ok _ _ h.ok (by rw [Sts.ok_one]; exact ⟨sho_size _, sho_size _, sho_size _, mx_sx he, hb.ok, hel.ok, trivial⟩)
  · refine app_dp _ _ _ h.dp ?_
    have := hb.dp
    have := hel.dp
    rw [Sts.dp_one, Sts.dp_nil]
    omega
  · rw [app_sz, Nat.add_mul, Nat.one_mul]
    have := h.sz
    have := hb.sz
    have := hel.sz
    rw [Sts.sz_one, Sts.sz_nil]
    omega
  · refine Sc.app _ _ _ _ (h.out W' ⟨fun k cs t fz hk hc ht => A W' hW k cs t fz hk.1 hk.2 (st.low.block hc) ht⟩) ?_
    have b1 := hb.out W' (B W' hW)
    have b2 := hel.out W' (B W' hW)
    rw [sc_one]
    exact ⟨pa, lw 2 e.m, ca, pb, nb, cb, pe, ne, ce, [], (List.append_nil _).symm, st.ay W' (B W' hW), ⟨b1.len, b1.le, b1.cap, b1.out⟩, ⟨b2.len, b2.le, b2.cap, b2.out⟩, by rw [sc_nil]⟩
  · exact below_own (h.low.trans st.low) (own_kept h.own st.low) ((Kept.refl W).alloc o) (by rw [ob]; exact g5)
/-- An append in a plain region, and where its row lies. -/
theorem wpList_append_at {P : Program} (w : World) {ops : Array Oper} {rest : List Oper} {o : Oper} {a : Act} {Q : Exit → Act → World → Prop} (hgd : o.guard = none) (s x : Operand) (t : TypeId)
    (ho : o.op = .call { callee := .builtin .append, args := #[s, x], argTypes := #[t, t] })
    (base : Nat) (e : TypeId) (i : TypeInfo) (z : Value) (size bytes : Nat) (ht : P.underlying t = some (.slice e)) (hi : P.info? e = some i) (hz : i.zero = some z)
    (hsize : i.size = size) (hby : i.bytes = bytes) (hzs : z.cells.size = size) (hsz : 0 < size)
    (v : Value) (n : Nat) (xs : List Value) (hs : a.eval s = v) (hown : w.ownsRow base e size v n xs)
    (ad : Addr) (m c : Nat) (news : List Value) (hx : a.eval x = .slice (some ad) m c) (hl : news.length = m * size) (hnews : ∀ j u, news[j]? = some u → w.cell? (ad.add j) = some u) (h1 : ∀ u ∈ news, u.oneCell' = true)
    (h63 : n + m ≤ maxLen) (hbytes : (n + m) * bytes ≤ 140737488355328) (hbase : base ≤ w.heap.size)
    (h : ∀ v' w', w'.ownsRow base e size v' (n + m) (xs ++ news) → w.grownBy w' v.ownBlock → (v'.ownBlock = v.ownBlock ∨ v'.ownBlock = some w.heap.size) → wpList P ops Q rest (a.put o.dst v') w') : wpList P ops Q (o :: rest) a w := by
  obtain ⟨v', w', hrun, h2, h3, _, h5⟩ := run_append_own_at (P := P) w base t o.type e i z size bytes ht hi hz hsize hby hzs hsz v n xs hown ad m c news hl hnews h1 h63 hbytes hbase
  refine wpList_plain hgd fun K hK => ?_
  unfold Oper.wp
  simp [execOp, ho, resolve, invoke, builtin, hs, hx, hrun, Result.andThen]
  exact hK _ _ (h v' w' h2 h3 h5)
end Go.Proofs.YtgdafolidifdoaaDoor.Tp
