/- Joined: TH TI TK TJ TL TM TN TOa TOb TOc TOd TOe TOf TP TQ TR TS TT. What is proved of the functions beneath BtreeNone. Conditions: those that each row names. -/
import Derived.Test.YtncfpjccfmolgaaGreatDoorZbg
import Derived.Test.YtncfpjccfmolgaaGreatDoorZbh
import Derived.Deep.RegionLaw
namespace Go.Proofs.YtncfpjccfmolgaaGreatDoor.T
open Go.ChangeShapes Go.WideShapes Go.ChangeAt Go.RowKit
open B (Pm pt Stp plc)
open N (Nd NV Rw Rx Own Kept kcl vcl icl Vl C4 Up)

/-- A step of a way, as it lies in memory. -/
structure Sm where
  page : Nat
  kid : Nat
  l : Bool
  kp : Option Addr
  nk : Nat
  kc : Nat
  vp : Option Addr
  nv : Nat
  vc : Nat
  ip : Option Addr
  ni : Nat
  ic : Nat
  x : Nd
def Sm.stp (s : Sm) : Stp := ⟨s.page, s.x, s.kid⟩
def Sm.cells (s : Sm) : List Value := [.int .i64 (s.page : Nat), .bool s.l, .slice s.kp s.nk s.kc, .slice s.vp s.nv s.vc, .slice s.ip s.ni s.ic, .int .i64 (s.kid : Nat)]
def Sm.ok (w : World) (s : Sm) : Prop := NV w s.l s.kp s.nk s.kc s.vp s.nv s.vc s.ip s.ni s.ic s.x
def scl (L : List Sm) : List Value := L.flatMap Sm.cells
theorem scl_snoc (L : List Sm) (s : Sm) : scl (L ++ [s]) = scl L ++ s.cells := by simp [scl]
theorem scl_length : ∀ L : List Sm, (scl L).length = L.length * 6
  | [] => rfl
  | s :: r => by
    have : scl (s :: r) = s.cells ++ scl r := by simp [scl]
    rw [this, List.length_append, scl_length r]; simp [Sm.cells]; omega
theorem scl_at : ∀ (L : List Sm) (k : Nat) (s : Sm), L[k]? = some s → ∀ j, j < 6 → (scl L)[k * 6 + j]? = s.cells[j]?
  | [], _, _, h, _, _ => by simp at h
  | a :: r, 0, s, h, j, hj => by
    simp at h; subst h
    have : scl (a :: r) = a.cells ++ scl r := by simp [scl]
    rw [this, Nat.zero_mul, Nat.zero_add, List.getElem?_append_left (by simp [Sm.cells]; omega)]
  | a :: r, k + 1, s, h, j, hj => by
    have : scl (a :: r) = a.cells ++ scl r := by simp [scl]
    have hl : a.cells.length = 6 := rfl
    rw [this, List.getElem?_append_right (by rw [hl]; omega), hl, ← scl_at r k s (by simpa using h) j hj]
    congr 1; omega

theorem ready6 {W : World} {b : Nat} {c0 c1 c2 c3 c4 c5 : Value} {t : TypeId} (h0 : W.heap[b]? = some (.cells #[c0, c1, c2, c3, c4, c5] t)) (v0 v1 v2 v3 v4 v5 : Value) :
    (W.cell? ⟨b, 0, none⟩ = some c0 ∧ W.frozen? ⟨b, 0, none⟩ = false) ∧
    ((W.setCell ⟨b, 0, none⟩ v0).cell? ⟨b, 1, none⟩ = some c1 ∧ (W.setCell ⟨b, 0, none⟩ v0).frozen? ⟨b, 1, none⟩ = false) ∧
    (((W.setCell ⟨b, 0, none⟩ v0).setCell ⟨b, 1, none⟩ v1).cell? ⟨b, 2, none⟩ = some c2 ∧ ((W.setCell ⟨b, 0, none⟩ v0).setCell ⟨b, 1, none⟩ v1).frozen? ⟨b, 2, none⟩ = false) ∧
    ((((W.setCell ⟨b, 0, none⟩ v0).setCell ⟨b, 1, none⟩ v1).setCell ⟨b, 2, none⟩ v2).cell? ⟨b, 3, none⟩ = some c3 ∧ (((W.setCell ⟨b, 0, none⟩ v0).setCell ⟨b, 1, none⟩ v1).setCell ⟨b, 2, none⟩ v2).frozen? ⟨b, 3, none⟩ = false) ∧
    (((((W.setCell ⟨b, 0, none⟩ v0).setCell ⟨b, 1, none⟩ v1).setCell ⟨b, 2, none⟩ v2).setCell ⟨b, 3, none⟩ v3).cell? ⟨b, 4, none⟩ = some c4 ∧ ((((W.setCell ⟨b, 0, none⟩ v0).setCell ⟨b, 1, none⟩ v1).setCell ⟨b, 2, none⟩ v2).setCell ⟨b, 3, none⟩ v3).frozen? ⟨b, 4, none⟩ = false) ∧
    ((((((W.setCell ⟨b, 0, none⟩ v0).setCell ⟨b, 1, none⟩ v1).setCell ⟨b, 2, none⟩ v2).setCell ⟨b, 3, none⟩ v3).setCell ⟨b, 4, none⟩ v4).cell? ⟨b, 5, none⟩ = some c5 ∧ (((((W.setCell ⟨b, 0, none⟩ v0).setCell ⟨b, 1, none⟩ v1).setCell ⟨b, 2, none⟩ v2).setCell ⟨b, 3, none⟩ v3).setCell ⟨b, 4, none⟩ v4).frozen? ⟨b, 5, none⟩ = false) ∧
    ((((((W.setCell ⟨b, 0, none⟩ v0).setCell ⟨b, 1, none⟩ v1).setCell ⟨b, 2, none⟩ v2).setCell ⟨b, 3, none⟩ v3).setCell ⟨b, 4, none⟩ v4).setCell ⟨b, 5, none⟩ v5).heap[b]? = some (.cells #[v0, v1, v2, v3, v4, v5] t) := by
  have h1 : (W.setCell ⟨b, 0, none⟩ v0).heap[b]? = some (.cells #[v0, c1, c2, c3, c4, c5] t) := by rw [heap_setCell_same _ b 0 _ _ _ h0]; rfl
  have h2 : ((W.setCell ⟨b, 0, none⟩ v0).setCell ⟨b, 1, none⟩ v1).heap[b]? = some (.cells #[v0, v1, c2, c3, c4, c5] t) := by rw [heap_setCell_same _ b 1 _ _ _ h1]; rfl
  have h3 : (((W.setCell ⟨b, 0, none⟩ v0).setCell ⟨b, 1, none⟩ v1).setCell ⟨b, 2, none⟩ v2).heap[b]? = some (.cells #[v0, v1, v2, c3, c4, c5] t) := by rw [heap_setCell_same _ b 2 _ _ _ h2]; rfl
  have h4 : ((((W.setCell ⟨b, 0, none⟩ v0).setCell ⟨b, 1, none⟩ v1).setCell ⟨b, 2, none⟩ v2).setCell ⟨b, 3, none⟩ v3).heap[b]? = some (.cells #[v0, v1, v2, v3, c4, c5] t) := by rw [heap_setCell_same _ b 3 _ _ _ h3]; rfl
  have h5 : (((((W.setCell ⟨b, 0, none⟩ v0).setCell ⟨b, 1, none⟩ v1).setCell ⟨b, 2, none⟩ v2).setCell ⟨b, 3, none⟩ v3).setCell ⟨b, 4, none⟩ v4).heap[b]? = some (.cells #[v0, v1, v2, v3, v4, c5] t) := by rw [heap_setCell_same _ b 4 _ _ _ h4]; rfl
  have h6 : ((((((W.setCell ⟨b, 0, none⟩ v0).setCell ⟨b, 1, none⟩ v1).setCell ⟨b, 2, none⟩ v2).setCell ⟨b, 3, none⟩ v3).setCell ⟨b, 4, none⟩ v4).setCell ⟨b, 5, none⟩ v5).heap[b]? = some (.cells #[v0, v1, v2, v3, v4, v5] t) := by rw [heap_setCell_same _ b 5 _ _ _ h5]; rfl
  exact ⟨⟨by rw [cell_of_row _ b 0 _ _ _ h0]; rfl, frozen_of_row _ b 0 _ _ h0⟩, ⟨by rw [cell_of_row _ b 1 _ _ _ h1]; rfl, frozen_of_row _ b 1 _ _ h1⟩, ⟨by rw [cell_of_row _ b 2 _ _ _ h2]; rfl, frozen_of_row _ b 2 _ _ h2⟩, ⟨by rw [cell_of_row _ b 3 _ _ _ h3]; rfl, frozen_of_row _ b 3 _ _ h3⟩, ⟨by rw [cell_of_row _ b 4 _ _ _ h4]; rfl, frozen_of_row _ b 4 _ _ h4⟩, ⟨by rw [cell_of_row _ b 5 _ _ _ h5]; rfl, frozen_of_row _ b 5 _ _ h5⟩, h6⟩

theorem cells6 {W : World} {b : Nat} {c0 c1 c2 c3 c4 c5 : Value} {t : TypeId} (h : W.heap[b]? = some (.cells #[c0, c1, c2, c3, c4, c5] t)) :
    W.cell? ⟨b, 0, none⟩ = some c0 ∧ W.cell? ⟨b, 1, none⟩ = some c1 ∧ W.cell? ⟨b, 2, none⟩ = some c2 ∧ W.cell? ⟨b, 3, none⟩ = some c3 ∧ W.cell? ⟨b, 4, none⟩ = some c4 ∧ W.cell? ⟨b, 5, none⟩ = some c5 :=
  ⟨by rw [cell_of_row _ b 0 _ _ _ h]; rfl, by rw [cell_of_row _ b 1 _ _ _ h]; rfl, by rw [cell_of_row _ b 2 _ _ _ h]; rfl, by rw [cell_of_row _ b 3 _ _ _ h]; rfl, by rw [cell_of_row _ b 4 _ _ _ h]; rfl, by rw [cell_of_row _ b 5 _ _ _ h]; rfl⟩

/-- A way in memory. -/
structure WAt (w : World) (p : Option Addr) (n c : Nat) (L : List Sm) : Prop where
  row : Rw w 6 p n c (scl L)
  rx : Rx w 113 p c
  ok : ∀ s ∈ L, s.ok w
theorem WAt.kept {w w' : World} {p : Option Addr} {n c : Nat} {L : List Sm} (h : WAt w p n c L) (k : Kept w w') : WAt w' p n c L := ⟨k.rw h.row, h.rx.kept k, fun s hs => NV.kept (h.ok s hs) k⟩
theorem WAt.on {B : Nat} {w w' : World} {p : Option Addr} {n c : Nat} {L : List Sm} (h : WAt w p n c L) (o : G.On B w w') : WAt w' p n c L := ⟨rw_on o calm113 h.row h.rx, rx_on o calm113 h.rx, fun s hs => nv_on o (h.ok s hs)⟩
theorem WAt.len {w : World} {p : Option Addr} {n c : Nat} {L : List Sm} (h : WAt w p n c L) : L.length = n := by
  have := h.row.len
  rw [scl_length] at this
  omega

/-- A way whose nodes are in pages. -/
structure Wy (M : Pm) (key : ByteArray) (P : List Stp) : Prop where
  nod : ∀ (k : Nat) (s : Stp), P[k]? = some s → M s.page = some s.x ∧ N.Good s.x ∧ Up s.x.ks ∧ s.kid = plc s.x key ∧ s.x.leaf = decide (k + 1 = P.length)
  nxt : ∀ (k : Nat) (s s' : Stp), P[k]? = some s → P[k + 1]? = some s' → s.x.is[s.kid]? = some (s'.page : Int)
  few : P.length ≤ 1000

/-- While a way is found. -/
structure Wg (w W : World) (P : List Stp) (k : Nat) (v u : Value) : Prop where
  out : ∃ p c L n, v = .slice p k c ∧ u = .int .i64 n ∧ L.map Sm.stp = P.take k ∧ Own W w.heap.size 113 6 p k c (scl L) ∧ (∀ s ∈ L, s.ok W) ∧ Kept w W ∧ (∀ s, P[k]? = some s → n = (s.page : Nat))

theorem six_cell (w : World) (a0 a1 a2 a3 a4 a5 : Value) (t : TypeId) : ∀ j u, [a0, a1, a2, a3, a4, a5][j]? = some u → (w.alloc (.cells #[a0, a1, a2, a3, a4, a5] t)).cell? ((⟨w.heap.size, 0, none⟩ : Addr).add j) = some u := by
  intro j u hj
  rw [Addr.add_lit, Nat.zero_add, cell_of_row _ _ _ _ _ _ (heap_alloc_new w (.cells #[a0, a1, a2, a3, a4, a5] t))]
  simpa using hj
theorem info113 : (Tryz.prog.info? 113).map (fun i => (i.zero, i.size, i.bytes)) = some (some (.agg #[.int .i64 0, .bool false, .slice none 0 0, .slice none 0 0, .slice none 0 0, .int .i64 0]), 6, 96) := by kernel_rfl

/-- A row of steps turns: slices of other types stay. -/
theorem rx_grown {w w' : World} {r : Option Nat} (hg : w.grownBy w' r) (hr : ∀ b, r = some b → ∃ cs fr, w.heap[b]? = some (.cells cs 113 fr)) {e : TypeId} (he : e ≠ 113) {p : Option Addr} {c : Nat} (h : Rx w e p c) : Rx w' e p c := by
  refine ⟨fun b off ph hp => ?_, h.nil⟩
  obtain ⟨cs, fr, hb⟩ := h.typ b off ph hp
  refine ⟨cs, fr, (hg.block b (Array.getElem?_eq_some_iff.1 hb).1 (fun e2 => ?_)).trans hb⟩
  obtain ⟨cs', fr', hb'⟩ := hr b e2.symm
  rw [hb] at hb'
  injection hb' with hb'
  injection hb' with _ e3 _
  exact he e3
theorem rw_grown {w w' : World} {r : Option Nat} (hg : w.grownBy w' r) (hr : ∀ b, r = some b → ∃ cs fr, w.heap[b]? = some (.cells cs 113 fr)) {e : TypeId} (he : e ≠ 113) {sz : Nat} {p : Option Addr} {n c : Nat} {cs : List Value} (h : Rw w sz p n c cs) (hx : Rx w e p c) : Rw w' sz p n c cs := by
  refine ⟨h.len, h.le, h.cap, ?_⟩
  rcases h.out with h0 | ⟨b, off, rfl, f⟩
  · exact .inl h0
  · refine .inr ⟨b, off, rfl, fun j u hu => ?_⟩
    obtain ⟨cs', fr, hb⟩ := hx.typ b off none rfl
    rw [← f j u hu]
    refine World.cell?_of_block (hg.block b (Array.getElem?_eq_some_iff.1 hb).1 (fun e2 => ?_))
    obtain ⟨cs2, fr2, hb'⟩ := hr b e2.symm
    rw [hb] at hb'
    injection hb' with hb'
    injection hb' with _ e3 _
    exact he e3
theorem nv_grown {w w' : World} {r : Option Nat} (hg : w.grownBy w' r) (hr : ∀ b, r = some b → ∃ cs fr, w.heap[b]? = some (.cells cs 113 fr)) {l : Bool} {kp : Option Addr} {nk kc : Nat} {vp : Option Addr} {nv vc : Nat} {ip : Option Addr} {ni ic : Nat} {x : Nd} (h : NV w l kp nk kc vp nv vc ip ni ic x) : NV w' l kp nk kc vp nv vc ip ni ic x :=
  ⟨h.hl, rw_grown hg hr (by decide) h.k h.kx, rw_grown hg hr (by decide) h.v h.vx, rw_grown hg hr (by decide) h.i h.ix, rx_grown hg hr (by decide) h.kx, rx_grown hg hr (by decide) h.vx, rx_grown hg hr (by decide) h.ix⟩
/-- One step more: what stays. -/
theorem way_step {w W w' : World} {q : Option Addr} {k c : Nat} {cs : List Value} (o : Own W w.heap.size 113 6 q k c cs) (hg : W.grownBy w' (Value.slice q k c).ownBlock) (hK : Kept w W) {l : Bool} {kp : Option Addr} {nk kc : Nat} {vp : Option Addr} {nv vc : Nat} {ip : Option Addr} {ni ic : Nat} {x : Nd} (hN : NV W l kp nk kc vp nv vc ip ni ic x) {L : List Sm} (hL : ∀ s ∈ L, s.ok W) :
    Kept w w' ∧ (NV w' l kp nk kc vp nv vc ip ni ic x ∧ ∀ s ∈ L, s.ok w') ∧ ∀ b a0 a1 a2 a3, C4 W b 52 a0 a1 a2 a3 → C4 w' b 52 a0 a1 a2 a3 := by
  have ob := own_blk o
  have hr : ∀ b, (Value.slice q k c).ownBlock = some b → ∃ cs fr, W.heap[b]? = some (.cells cs 113 fr) := fun b e => (ob b e).2
  refine ⟨N.grown_kept (B := w.heap.size) w hK hg (Nat.le_refl _) (fun b e => (ob b e).1), ⟨nv_grown hg hr hN, fun s hs => nv_grown hg hr (hL s hs)⟩, fun b a0 a1 a2 a3 h => ⟨(hg.block b h.lt (fun e => ?_)).trans h.out⟩⟩
  obtain ⟨cs', fr', hb'⟩ := hr b e.symm
  have := h.out
  rw [hb'] at this
  injection this with this
  injection this with _ e3 _
  exact absurd e3 (by decide)

theorem blk_stays {W w' : World} {q : Option Addr} {k c : Nat} (hg : W.grownBy w' (Value.slice q k c).ownBlock) {bs : Nat} {o : Obj} (hb : W.heap[bs]? = some o) (hne : ∀ b, (Value.slice q k c).ownBlock = some b → b ≠ bs) : w'.heap[bs]? = some o :=
  (hg.block bs (Array.getElem?_eq_some_iff.1 hb).1 (fun e => hne bs e.symm rfl)).trans hb
theorem nv_kid {w : World} {l : Bool} {kp : Option Addr} {nk kc : Nat} {vp : Option Addr} {nv vc : Nat} {ib io ni ic : Nat} {x : Nd} (h : NV w l kp nk kc vp nv vc (some ⟨ib, io, none⟩) ni ic x) {j : Nat} {q : Int} (hq : x.is[j]? = some q) : w.cell? ⟨ib, io + j, none⟩ = some (.int .i64 q) := by
  rcases h.i.out with ⟨h0, _⟩ | ⟨b, off, e, f⟩
  · cases h0
  · injection e with e
    injection e with e1 e2 _
    subst e1; subst e2
    exact f j _ (N.icl_at hq)

set_option maxRecDepth 100000 in
set_option maxHeartbeats 2000000 in
theorem way_walk {B : Nat} {w : World} {t p m : Nat} {root : Nat} {M : Pm} {key : ByteArray} {P : List Stp} (hT : TAt w t p (root : Nat)) (h : Pv B w p m M) (hP : Wy M key P) (hne : 0 < P.length) (h0 : ∀ s, P[0]? = some s → s.page = root) :
    Calls Tryz.prog 28 #[.pointer (some ⟨t, 0, none⟩), .string key] w fun e w' => ∃ q c L, e = .returned (.tuple #[.slice q P.length c, .int .i64 0]) ∧ L.map Sm.stp = P ∧ WAt w' q P.length c L ∧ Kept w w' := by
  obtain ⟨i0, hi0, hz0, hz1, hz2⟩ := info_parts info113
  obtain ⟨c0, c1⟩ := hT.cs
  have HT : Hid (TAt w t p (root : Nat)) := hT
  have HV : Hid (Pv B w p m M) := h
  have HP : Hid (Wy M key P) := hP
  have HF : Hid (P.length ≤ 1000) := hP.few
  have W0 : Hid (Wg w w P 0 (.slice none 0 0) (.int .i64 (root : Nat))) := ⟨none, 0, [], _, rfl, rfl, rfl, own_nil _ _ _ _, (fun s hs => by cases hs), Kept.refl w, fun s hs => by rw [h0 s hs]⟩
  clear hT h hP h0
  obtain ⟨len, hlen⟩ : ∃ len, P.length = len := ⟨_, rfl⟩
  rw [hlen] at hne HF ⊢
  have HLn : Hid (P.length = len) := hlen
  clear hlen
  go_enter Tryz.func28, Tryz.ntmps28
  go_wp2
  go_loopg [6, 7] len (fun gg v u wx => ∃ k, Hid (gg = len - k) ∧ k < len ∧ Wg w wx P k v u)
  case atStart => exact ⟨0, rfl, hne, W0.out⟩
  case round =>
    obtain ⟨k, hgk, hk, hw⟩ := hrel
    obtain ⟨q, c, L, n, rfl, rfl, hL, hO, hok, hK, hn⟩ := hw.out
    obtain ⟨s, hs⟩ : ∃ s, P[k]? = some s := ⟨_, List.getElem?_eq_getElem (by rw [HLn.out]; exact hk)⟩
    obtain rfl := hn s hs
    obtain ⟨sM, sG, sU, sk, sl⟩ := HP.out.nod k s hs
    have HN := node_walk (HT.out.kept hK) (HV.out.kept hK) sM sG sU s.x.leaf rfl
    have HGd : Hid (N.Good s.x) := sG
    have HS : Hid (P[k]? = some s) := hs
    have HSk : Hid (s.kid = plc s.x key) := sk
    have HSl : Hid (s.x.leaf = decide (k + 1 = P.length)) := sl
    have HL' : Hid (L.map Sm.stp = P.take k) := hL
    have HO : Hid (Own wr w.heap.size 113 6 q k c (scl L)) := hO
    have HOk : Hid (∀ s ∈ L, s.ok wr) := hok
    have hneg : ¬ (s.page : Int) = -1 := by omega
    have hk16 : ¬ (k : Int) = 16384 := by have := HF.out; omega
    clear hw hn hL hO hok hs sM sG sU sk sl W0
    generalize s.x.leaf = l at *
    go_upto_region 9 with (go_at_call 21; (with_reducible refine HN.mono ?_); rintro e w1 ⟨kp, nk, kc, vp, nv, vc, ip, ni, ic, rfl, N1, k1, _⟩; have k2 : Kept w1 (w1.alloc (.cells #[.bool l, .slice kp nk kc, .slice vp nv vc, .slice ip ni ic] 52)) := (Kept.refl w1).alloc _; have N2 := N1.kept k2; have X2 := C4.alloc w1 52 (.bool l) (.slice kp nk kc) (.slice vp nv vc) (.slice ip ni ic); obtain ⟨y0, y1, y2, y3⟩ := X2.cs; have K2 := (hK.trans k1).trans k2)
    have HPl : Hid (∀ W, Kept (w1.alloc (.cells #[.bool l, .slice kp nk kc, .slice vp nv vc, .slice ip ni ic] 52)) W → Calls Tryz.prog 51 #[.agg #[.bool l, .slice kp nk kc, .slice vp nv vc, .slice ip ni ic], .string key] W fun e w' => e = .returned (.int .i64 (s.kid : Nat)) ∧ Kept W w' ∧ Kept (w1.alloc (.cells #[.bool l, .slice kp nk kc, .slice vp nv vc, .slice ip ni ic] 52)) w') := fun W kW => by rw [HSk.out]; exact (place_walk (N2.kept kW) HGd.out key).mono (fun e w' hh => ⟨hh.1, hh.2, kW.trans hh.2⟩)
    go_cut [10] (fun tv wx => ∃ bs, tv = .pointer (some ⟨bs, 0, none⟩) ∧ wx.heap[bs]? = some (.cells #[.int .i64 (s.page : Nat), .bool l, .slice kp nk kc, .slice vp nv vc, .slice ip ni ic, .int .i64 (s.kid : Nat)] 113) ∧ w1.heap.size < bs ∧ Kept (w1.alloc (.cells #[.bool l, .slice kp nk kc, .slice vp nv vc, .slice ip ni ic] 52)) wx)
    case first =>
      have kA : Kept (w1.alloc (.cells #[.bool l, .slice kp nk kc, .slice vp nv vc, .slice ip ni ic] 52)) (w1.alloc (.cells #[.bool l, .slice kp nk kc, .slice vp nv vc, .slice ip ni ic] 52)).drew := (Kept.refl _).drew
      have kB : Kept (w1.alloc (.cells #[.bool l, .slice kp nk kc, .slice vp nv vc, .slice ip ni ic] 52)) ((w1.alloc (.cells #[.bool l, .slice kp nk kc, .slice vp nv vc, .slice ip ni ic] 52)).alloc (.cells #[.int .i64 0, .bool false, .slice none 0 0, .slice none 0 0, .slice none 0 0, .int .i64 0] 113)).drew := ((Kept.refl _).alloc _).drew
      have HPA := HPl.out _ kA
      have HPB := HPl.out _ kB
      have zB : ((w1.alloc (.cells #[.bool l, .slice kp nk kc, .slice vp nv vc, .slice ip ni ic] 52)).alloc (.cells #[.int .i64 0, .bool false, .slice none 0 0, .slice none 0 0, .slice none 0 0, .int .i64 0] 113)).drew.heap[w1.heap.size + 1]? = some (.cells #[.int .i64 0, .bool false, .slice none 0 0, .slice none 0 0, .slice none 0 0, .int .i64 0] 113) := D.two_new w1 _ _
      have HZB : Hid (((w1.alloc (.cells #[.bool l, .slice kp nk kc, .slice vp nv vc, .slice ip ni ic] 52)).alloc (.cells #[.int .i64 0, .bool false, .slice none 0 0, .slice none 0 0, .slice none 0 0, .int .i64 0] 113)).drew.heap[w1.heap.size + 1]? = some (.cells #[.int .i64 0, .bool false, .slice none 0 0, .slice none 0 0, .slice none 0 0, .int .i64 0] 113)) := zB
      have hsz : (w1.alloc (.cells #[.bool l, .slice kp nk kc, .slice vp nv vc, .slice ip ni ic] 52)).heap.size ≤ w1.heap.size + 1 := by rw [N.size_alloc]; exact Nat.le_refl _
      clear HPl kA kB zB HN
      have hy0 := fun o => (X2.kept ((Kept.refl _).alloc o)).cs.1
      have hy1 := fun o => (X2.kept ((Kept.refl _).alloc o)).cs.2.1
      have hy2 := fun o => (X2.kept ((Kept.refl _).alloc o)).cs.2.2.1
      have hy3 := fun o => (X2.kept ((Kept.refl _).alloc o)).cs.2.2.2
      go_region_with (first
        | (go_at_call 51; (with_reducible refine HPA.mono ?_); rintro e w3 ⟨rfl, k3, kk⟩; obtain ⟨r0, r1, r2, r3⟩ := (X2.kept kk).cs; have hz0 := fun o => ((X2.kept kk).kept ((Kept.refl _).alloc o)).cs.1; have hz1 := fun o => ((X2.kept kk).kept ((Kept.refl _).alloc o)).cs.2.1; have hz2 := fun o => ((X2.kept kk).kept ((Kept.refl _).alloc o)).cs.2.2.1; have hz3 := fun o => ((X2.kept kk).kept ((Kept.refl _).alloc o)).cs.2.2.2; clear HPA HPB)
        | (go_at_call 51; (with_reducible refine HPB.mono ?_); rintro e w3 ⟨rfl, k3, kk⟩; obtain ⟨r0, r1, r2, r3⟩ := (X2.kept kk).cs; have Z0 := k3.block HZB.out; obtain ⟨⟨a0, f0⟩, ⟨a1, f1⟩, ⟨a2, f2⟩, ⟨a3, f3⟩, ⟨a4, f4⟩, ⟨a5, f5⟩, hfin⟩ := ready6 Z0 (.int .i64 (s.page : Nat)) (.bool l) (.slice kp nk kc) (.slice vp nv vc) (.slice ip ni ic) (.int .i64 (s.kid : Nat)); clear HPA HPB))
      all_goals go_wp2_with fail
      all_goals go_meet
      all_goals
        first
          | exact ⟨_, rfl, hfin, Nat.lt_succ_self _, ((kk.st4 (b := w1.heap.size + 1) hsz _ _ _ _).set (a := ⟨w1.heap.size + 1, 4, none⟩) hsz _).set (a := ⟨w1.heap.size + 1, 5, none⟩) hsz _⟩
          | exact ⟨_, rfl, heap_alloc_new w3 _, (by have := kk.size; rw [N.size_alloc] at this; omega), kk.alloc _⟩
    case rest =>
      obtain ⟨bs, rfl, hbs, hlt, kc3⟩ := hcut
      have HNe : Hid (∀ b, (Value.slice q k c).ownBlock = some b → b ≠ bs) := fun b e => by
        obtain ⟨_, cs', fr', hb'⟩ := own_blk HO.out b e
        have h1 := (Array.getElem?_eq_some_iff.1 hb').1
        have h2 := k1.size
        omega
      clear HPl
      have kw : Kept wr wc := (k1.trans k2).trans kc3
      obtain ⟨b0, b1, b2, b3, b4, b5⟩ := cells6 hbs
      obtain ⟨z0, z1, z2, z3⟩ := (X2.kept kc3).cs
      have N3 := N2.kept kc3
      have K3 := K2.trans kc3
      have ka : Kept wc (wc.alloc (.cells #[.int .i64 (s.page : Nat), .bool l, .slice kp nk kc, .slice vp nv vc, .slice ip ni ic, .int .i64 (s.kid : Nat)] 113)) := (Kept.refl wc).alloc _
      have OA := (HO.out.kept kw).kept ka
      have HOk3 : Hid (∀ z ∈ L, z.ok (wc.alloc (.cells #[.int .i64 (s.page : Nat), .bool l, .slice kp nk kc, .slice vp nv vc, .slice ip ni ic, .int .i64 (s.kid : Nat)] 113))) := fun z hz => NV.kept (NV.kept (HOk.out z hz) kw) ka
      have hz6 := six_cell wc (.int .i64 (s.page : Nat)) (.bool l) (.slice kp nk kc) (.slice vp nv vc) (.slice ip ni ic) (.int .i64 (s.kid : Nat)) 113
      have h1one : ∀ u ∈ [Value.int .i64 (s.page : Nat), .bool l, .slice kp nk kc, .slice vp nv vc, .slice ip ni ic, .int .i64 (s.kid : Nat)], u.oneCell' = true := by intro u hu; simp at hu; rcases hu with rfl | rfl | rfl | rfl | rfl | rfl <;> rfl
      have hkb : k + 1 ≤ 1000 := by have := HF.out; omega
      have hBE : w.heap.size ≤ (wc.alloc (.cells #[.int .i64 (s.page : Nat), .bool l, .slice kp nk kc, .slice vp nv vc, .slice ip ni ic, .int .i64 (s.kid : Nat)] 113)).heap.size := (K3.trans ka).size
      have hsn : Hid ((L ++ [(⟨s.page, s.kid, l, kp, nk, kc, vp, nv, vc, ip, ni, ic, s.x⟩ : Sm)]).map Sm.stp = P.take (k + 1)) := by
        show _ = _
        rw [List.map_append, HL'.out, List.take_add_one, HS.out]; rfl
      have hcl : Hid (scl (L ++ [(⟨s.page, s.kid, l, kp, nk, kc, vp, nv, vc, ip, ni, ic, s.x⟩ : Sm)]) = scl L ++ [.int .i64 (s.page : Nat), .bool l, .slice kp nk kc, .slice vp nv vc, .slice ip ni ic, .int .i64 (s.kid : Nat)]) := scl_snoc _ _
      by_cases hlast : k + 1 = len
      · obtain rfl : l = true := by rw [HSl.out, HLn.out]; simpa using hlast
        go_wp2_with (at_builtin; refine wpList_append_own _ rfl _ _ 65 rfl w.heap.size 113 i0 _ 6 96 Tryz.underlying65 hi0 hz0 hz1 hz2 rfl (by decide) (.slice q k c) k (scl L) rfl OA.out ⟨wc.heap.size, 0, none⟩ 1 1 [.int .i64 (s.page : Nat), .bool true, .slice kp nk kc, .slice vp nv vc, .slice ip ni ic, .int .i64 (s.kid : Nat)] rfl rfl hz6 h1one (by unfold maxLen; omega) (by omega) hBE ?_; intro v' w5 o5 g5 _; obtain ⟨q5, c5, rfl⟩ := owns_shape o5; obtain ⟨hK5, hN5, hX5⟩ := way_step OA g5 (K3.trans ka) (N3.kept ka) HOk3.out; obtain ⟨zz0, zz1, zz2, zz3⟩ := (hX5 _ _ _ _ _ ((X2.kept kc3).kept ka)).cs; have O5 : Hid (Own w5 w.heap.size 113 6 q5 (k + 1) c5 (scl (L ++ [(⟨s.page, s.kid, true, kp, nk, kc, vp, nv, vc, ip, ni, ic, s.x⟩ : Sm)]))) := ⟨by rw [hcl.out]; exact o5⟩; clear o5 g5)
        go_ret2
        subst hlast
        refine ⟨_, _, _, rfl, ?_, ⟨O5.out.rw, O5.out.rx, fun z hz => ?_⟩, hK5⟩
        · rw [hsn.out, ← HLn.out, List.take_length]
        · rcases List.mem_append.1 hz with hz | hz
          · exact hN5.2 z hz
          · simp at hz; subst hz; exact hN5.1
      · obtain rfl : l = false := by rw [HSl.out, HLn.out]; simpa using hlast
        obtain ⟨s', hs'⟩ : ∃ s', P[k + 1]? = some s' := ⟨_, List.getElem?_eq_getElem (by rw [HLn.out]; omega)⟩
        have hnx := HP.out.nxt k s s' HS.out hs'
        have HNx : Hid (s.x.is[s.kid]? = some (s'.page : Int)) := hnx
        have HS' : Hid (P[k + 1]? = some s') := hs'
        have hkl : s.kid < ni := by have a := (List.getElem?_eq_some_iff.1 hnx).1; have b := N3.ni; omega
        have hkl2 : (s.kid : Int) < (ni : Int) := by omega
        obtain ⟨ib, io, rfl, _⟩ := N3.i.some (by omega)
        clear hnx hs'
        go_wp2_with (at_builtin; refine wpList_append_own _ rfl _ _ 65 rfl w.heap.size 113 i0 _ 6 96 Tryz.underlying65 hi0 hz0 hz1 hz2 rfl (by decide) (.slice q k c) k (scl L) rfl OA.out ⟨wc.heap.size, 0, none⟩ 1 1 [.int .i64 (s.page : Nat), .bool false, .slice kp nk kc, .slice vp nv vc, .slice (some ⟨ib, io, none⟩) ni ic, .int .i64 (s.kid : Nat)] rfl rfl hz6 h1one (by unfold maxLen; omega) (by omega) hBE ?_; intro v' w5 o5 g5 _; obtain ⟨q5, c5, rfl⟩ := owns_shape o5; obtain ⟨hK5, hN5, hX5⟩ := way_step OA g5 (K3.trans ka) (N3.kept ka) HOk3.out; obtain ⟨zz0, zz1, zz2, zz3⟩ := (hX5 _ _ _ _ _ ((X2.kept kc3).kept ka)).cs; have ci := nv_kid hN5.1 HNx.out; have hb5 := blk_stays g5 (ka.block hbs) HNe.out; obtain ⟨e0, e1, e2, e3, e4, e5⟩ := cells6 hb5; have O5 : Hid (Own w5 w.heap.size 113 6 q5 (k + 1) c5 (scl (L ++ [(⟨s.page, s.kid, false, kp, nk, kc, vp, nv, vc, some ⟨ib, io, none⟩, ni, ic, s.x⟩ : Sm)]))) := ⟨by rw [hcl.out]; exact o5⟩; clear o5 g5)
        go_roundg (len - (k + 1))
        case measure => rw [hgk.out]; omega
        case rel =>
          refine ⟨k + 1, rfl, by omega, ⟨q5, c5, _, _, rfl, rfl, hsn.out, O5.out, fun z hz => ?_, hK5, fun s2 hs2 => ?_⟩⟩
          · rcases List.mem_append.1 hz with hz | hz
            · exact hN5.2 z hz
            · simp at hz; subst hz; exact hN5.1
          · rw [HS'.out] at hs2; obtain rfl := Option.some.inj hs2; rfl
end Go.Proofs.YtncfpjccfmolgaaGreatDoor.T

namespace Go.Proofs.YtncfpjccfmolgaaGreatDoor.T
open Go.ChangeShapes Go.WideShapes Go.ChangeAt Go.RowKit
open B (Pm pt Stp plc)
open N (Nd NV Rw Rx Own Kept kcl vcl icl Vl C4 Up)

theorem way_nil {w : World} {t p : Nat} {key : ByteArray} (hT : TAt w t p (-1)) : Calls Tryz.prog 28 #[.pointer (some ⟨t, 0, none⟩), .string key] w fun e w' => e = .returned (.tuple #[.slice none 0 0, .int .i64 0]) ∧ w' = w := by
  obtain ⟨c0, c1⟩ := hT.cs
  go_enter Tryz.func28, Tryz.ntmps28
  go_wp2
  refine wp_loop_rounds 1 ?_
  rw [rounds_succ]
  go_wp2
  go_ret2
  exact ⟨rfl, rfl⟩
theorem end_nil (w : World) : Calls Tryz.prog 30 #[.slice none 0 0] w fun e w' => e = .returned (.agg #[.bool true, .slice none 0 0, .slice none 0 0, .slice none 0 0]) ∧ Kept w w' := by
  have K0 : Kept w (w.alloc (.cells #[.bool true, .slice none 0 0, .slice none 0 0, .slice none 0 0] 52)) := (Kept.refl w).alloc _
  have R0 := C4.alloc w 52 (.bool true) (.slice none 0 0) (.slice none 0 0) (.slice none 0 0)
  go_enter Tryz.func30, Tryz.ntmps30
  go_wp2
  refine bodyPost_ret (v := .agg #[.bool true, .slice none 0 0, .slice none 0 0, .slice none 0 0]) ?_ rfl ⟨rfl, K0⟩
  exact G.results_one (p := 2) (ty := 52) rfl _ _ w.heap.size 52 #[.bool true, .slice none 0 0, .slice none 0 0, .slice none 0 0] (0, 0) _ rfl R0.out Tryz.underlying52 rfl N.size52
end Go.Proofs.YtncfpjccfmolgaaGreatDoor.T

namespace Go.Proofs.YtncfpjccfmolgaaGreatDoor.T
open Go.ChangeShapes Go.WideShapes Go.ChangeAt Go.RowKit
open B (Pm pt Stp plc Ext WfN us)
open N (Nd NV Rw Rx Own Kept kcl vcl icl Vl C4 Up)

set_option maxRecDepth 100000 in
set_option maxHeartbeats 1000000 in
theorem end_walk {w : World} {q : Option Addr} {n k c : Nat} {L : List Sm} (h : WAt w q n c L) (hk : k ≤ 1000) (hn : n = k + 1) {s : Sm} (hs : L[k]? = some s) :
    Calls Tryz.prog 30 #[.slice q n c] w fun e w' => e = .returned (.agg #[.bool s.l, .slice s.kp s.nk s.kc, .slice s.vp s.nv s.vc, .slice s.ip s.ni s.ic]) ∧ Kept w w' := by
  obtain ⟨b, off, rfl, f⟩ := h.row.some (by omega)
  have K0 : Kept w (w.alloc (.cells #[.bool false, .slice none 0 0, .slice none 0 0, .slice none 0 0] 52)) := (Kept.refl w).alloc _
  have a1 : (w.alloc (.cells #[.bool false, .slice none 0 0, .slice none 0 0, .slice none 0 0] 52)).cell? ⟨b, off + k * 6 + 1, none⟩ = some (.bool s.l) := K0.cell (f (k * 6 + 1) _ (by rw [scl_at L k s hs 1 (by decide)]; rfl))
  have a2 : (w.alloc (.cells #[.bool false, .slice none 0 0, .slice none 0 0, .slice none 0 0] 52)).cell? ⟨b, off + k * 6 + 1 + 1, none⟩ = some (.slice s.kp s.nk s.kc) := K0.cell (f (k * 6 + 2) _ (by rw [scl_at L k s hs 2 (by decide)]; rfl))
  have a3 : (w.alloc (.cells #[.bool false, .slice none 0 0, .slice none 0 0, .slice none 0 0] 52)).cell? ⟨b, off + k * 6 + 1 + 2, none⟩ = some (.slice s.vp s.nv s.vc) := K0.cell (f (k * 6 + 3) _ (by rw [scl_at L k s hs 3 (by decide)]; rfl))
  have a4 : (w.alloc (.cells #[.bool false, .slice none 0 0, .slice none 0 0, .slice none 0 0] 52)).cell? ⟨b, off + k * 6 + 1 + 3, none⟩ = some (.slice s.ip s.ni s.ic) := K0.cell (f (k * 6 + 4) _ (by rw [scl_at L k s hs 4 (by decide)]; rfl))
  obtain ⟨sp, sk, sl, skp, snk, skc, svp, snv, svc, sip, sni, sic, sx⟩ := s
  dsimp only at a1 a2 a3 a4 ⊢
  have e1 : IntKind.i64.wrap ((n : Int) - 1) = (k : Int) := by rw [IntKind.wrap_i64]; omega
  have hn0 : ¬ n = 0 := by omega
  have hkn : (k : Int) < (n : Int) := by omega
  clear f h hs hn
  go_enter Tryz.func30, Tryz.ntmps30
  go_wp2
  refine bodyPost_ret (v := .agg #[.bool sl, .slice skp snk skc, .slice svp snv svc, .slice sip sni sic]) ?_ rfl ⟨rfl, (Kept.refl w).alloc _⟩
  exact G.results_one (p := 2) (ty := 52) rfl _ _ w.heap.size 52 #[.bool sl, .slice skp snk skc, .slice svp snv svc, .slice sip sni sic] (0, 0) _ rfl (heap_alloc_new w _) Tryz.underlying52 rfl N.size52
end Go.Proofs.YtncfpjccfmolgaaGreatDoor.T

namespace Go.Proofs.YtncfpjccfmolgaaGreatDoor.T
open Go.ChangeShapes Go.WideShapes Go.ChangeAt Go.RowKit
open B (Pm pt Stp plc Ext WfN us)
open N (Nd NV Rw Rx Own Kept kcl vcl icl Vl C4 Up)

/-- There is no page more. -/
def PE (M : Pm) (m : Nat) (y : Nd) (M' : Pm) : Prop :=
  (y.put.length ≤ 237 ∧ frst M m = none ∧ M' = M) ∨
  (237 < y.put.length ∧ ∃ mm key, N.Mid y 0 mm ∧ y.ks[mm]? = some key ∧ ((frst M m = none ∧ M' = M) ∨ ∃ n1, frst M m = some n1 ∧ frst (pt M n1 (y.fst mm)) m = none ∧ M' = pt M n1 (y.fst mm)))
theorem PE.ext {M M' : Pm} {m : Nat} {y : Nd} (h : PE M m y M') : Ext M M' := by
  rcases h with ⟨_, _, rfl⟩ | ⟨_, mm, key, _, _, ⟨_, rfl⟩ | ⟨n1, h1, _, rfl⟩⟩
  · exact B.Ext.refl _
  · exact B.Ext.refl _
  · exact B.pt_ext (frst_some h1).2.2.1
end Go.Proofs.YtncfpjccfmolgaaGreatDoor.T

namespace Go.Proofs.YtncfpjccfmolgaaGreatDoor.T
open Go.ChangeShapes Go.WideShapes Go.ChangeAt Go.RowKit
open B (Pm pt Stp plc Ext WfN us jn)
open N (Nd NV NZ Rw Rx Own Kept kcl vcl icl Vl C4 Up blk)

/-- All blocks that were there stay but a change's own and that of its list. -/
structure Jx (c : Nat) (j : Option Nat) (w w' : World) : Prop where
  zero : Below 0 w w'
  block : ∀ (b : Nat) (o : Obj), w.heap[b]? = some o → b ≠ c → j ≠ some b → w'.heap[b]? = some o
theorem Jx.ofKept {c : Nat} {j : Option Nat} {w w' : World} (k : Kept w w') : Jx c j w w' := ⟨k.out.mono (Nat.zero_le _), fun _ _ h _ _ => k.block h⟩
theorem Jx.size {c : Nat} {j : Option Nat} {w w' : World} (h : Jx c j w w') : w.heap.size ≤ w'.heap.size := h.zero.size
theorem Jx.trans {c : Nat} {j : Option Nat} {a b d : World} (h : Jx c j a b) (k : Jx c j b d) : Jx c j a d := ⟨h.zero.trans k.zero, fun x o hx h1 h2 => k.block x o (h.block x o hx h1 h2) h1 h2⟩
theorem Jx.kept {c : Nat} {j : Option Nat} {a b d : World} (h : Jx c j a b) (k : Kept b d) : Jx c j a d := h.trans (Jx.ofKept k)
theorem Jx.grown {c : Nat} {j : Option Nat} {w W W' : World} (h : Jx c j w W) {r : Option Nat} (hg : W.grownBy W' r) (hr : ∀ k, r = some k → j = some k ∨ w.heap.size ≤ k) : Jx c j w W' := by
  refine ⟨h.zero.trans ⟨hg.os, hg.tape, hg.output, hg.size, fun _ h => absurd h (Nat.not_lt_zero _)⟩, fun b o hb h1 h2 => ?_⟩
  have hb2 := h.block b o hb h1 h2
  refine (hg.block b (Array.getElem?_eq_some_iff.1 hb2).1 (fun e => ?_)).trans hb2
  rcases hr b e.symm with h3 | h3
  · exact h2 h3
  · have := (Array.getElem?_eq_some_iff.1 hb).1; omega
/-- Of which types these blocks are. -/
structure Jt (w : World) (c : Nat) (j : Option Nat) : Prop where
  c : ∃ cs fr, w.heap[c]? = some (.cells cs 119 fr)
  j : ∀ b, j = some b → ∃ cs fr, w.heap[b]? = some (.cells cs 3 fr)
theorem Jx.cells {c : Nat} {j : Option Nat} {w w' : World} (h : Jx c j w w') (ht : Jt w c j) {b : Nat} {cs : Array Value} {t : TypeId} {fr : Nat × Nat} (hb : w.heap[b]? = some (.cells cs t fr)) (h1 : t ≠ 119) (h2 : t ≠ 3) : w'.heap[b]? = some (.cells cs t fr) := by
  refine h.block b _ hb ?_ ?_
  · rintro rfl
    obtain ⟨cs', fr', e⟩ := ht.c
    rw [hb] at e; injection e with e; injection e with _ e _; exact h1 e
  · intro e
    obtain ⟨cs', fr', e⟩ := ht.j b e
    rw [hb] at e; injection e with e; injection e with _ e _; exact h2 e
theorem Jx.ap {c : Nat} {j : Option Nat} {w w' : World} (h : Jx c j w w') (ht : Jt w c j) : Ap w w' := by
  refine ⟨fun k cs t fr hk h2 => h.cells ht hk (by rintro rfl; revert h2; decide) (by rintro rfl; revert h2; decide), fun k es n hk => h.block k _ hk ?_ ?_⟩
  · rintro rfl
    obtain ⟨cs', fr', e⟩ := ht.c
    rw [hk] at e; cases e
  · intro e
    obtain ⟨cs', fr', e⟩ := ht.j k e
    rw [hk] at e; cases e
theorem Jx.rx {c : Nat} {j : Option Nat} {w w' : World} (h : Jx c j w w') {e : TypeId} {p : Option Addr} {n : Nat} (k : Rx w e p n) (hp : ∀ b off ph, p = some ⟨b, off, ph⟩ → b ≠ c ∧ j ≠ some b) : Rx w' e p n :=
  ⟨fun b off ph hb => by obtain ⟨cs, fr, hc⟩ := k.typ b off ph hb; exact ⟨cs, fr, h.block _ _ hc (hp b off ph hb).1 (hp b off ph hb).2⟩, k.nil⟩
theorem Jx.rw {c : Nat} {j : Option Nat} {w w' : World} (h : Jx c j w w') {e : TypeId} {sz : Nat} {p : Option Addr} {n cap : Nat} {cs : List Value} (r : Rw w sz p n cap cs) (k : Rx w e p cap) (hp : ∀ b off ph, p = some ⟨b, off, ph⟩ → b ≠ c ∧ j ≠ some b) : Rw w' sz p n cap cs := by
  refine ⟨r.len, r.le, r.cap, ?_⟩
  rcases r.out with h0 | ⟨b, off, rfl, f⟩
  · exact .inl h0
  · refine .inr ⟨b, off, rfl, fun i u hu => ?_⟩
    obtain ⟨cs', fr, hb⟩ := k.typ b off none rfl
    rw [← f i u hu]
    exact World.cell?_of_block ((h.block _ _ hb (hp b off none rfl).1 (hp b off none rfl).2).trans hb.symm)
/-- That a list of pages lies apart from a change's own. -/
def Apt (c : Nat) (j : Option Nat) (p : Option Addr) : Prop := ∀ b off ph, p = some ⟨b, off, ph⟩ → b ≠ c ∧ j ≠ some b
theorem apt_of {c : Nat} {j : Option Nat} {w : World} (ht : Jt w c j) {e : TypeId} {p : Option Addr} {n : Nat} (k : Rx w e p n) (h1 : e ≠ 119) (h2 : e ≠ 3) : Apt c j p := by
  intro b off ph hb
  obtain ⟨cs, fr, hc⟩ := k.typ b off ph hb
  refine ⟨?_, ?_⟩
  · rintro rfl
    obtain ⟨cs', fr', e⟩ := ht.c
    rw [hc] at e; injection e with e; injection e with _ e _; exact h1 e
  · intro e
    obtain ⟨cs', fr', e⟩ := ht.j b e
    rw [hc] at e; injection e with e; injection e with _ e _; exact h2 e
theorem Jx.nv {c : Nat} {j : Option Nat} {w w' : World} (h : Jx c j w w') (ht : Jt w c j) {l : Bool} {kp : Option Addr} {nk kc : Nat} {vp : Option Addr} {nv vc : Nat} {ip : Option Addr} {ni ic : Nat} {x : Nd} (k : NV w l kp nk kc vp nv vc ip ni ic x) (hi : Apt c j ip) : NV w' l kp nk kc vp nv vc ip ni ic x :=
  ⟨k.hl, h.rw k.k k.kx (apt_of ht k.kx (by decide) (by decide)), h.rw k.v k.vx (apt_of ht k.vx (by decide) (by decide)), h.rw k.i k.ix hi, h.rx k.kx (apt_of ht k.kx (by decide) (by decide)), h.rx k.vx (apt_of ht k.vx (by decide) (by decide)), h.rx k.ix hi⟩
end Go.Proofs.YtncfpjccfmolgaaGreatDoor.T

namespace Go.Proofs.YtncfpjccfmolgaaGreatDoor.T
open Go.ChangeShapes Go.WideShapes Go.ChangeAt Go.RowKit
open B (Pm pt Stp plc Ext WfN us jn)
open N (Nd NV NZ Rw Rx Own Kept kcl vcl icl Vl C4 Up blk)

theorem own_same {w w' : World} {B : Nat} {e : TypeId} {sz : Nat} {p : Option Addr} {n cap : Nat} {cs : List Value} (h : Own w B e sz p n cap cs) {b : Nat} {cc : Array Value} {t : TypeId} {fr : Nat × Nat} (hb : w.heap[b]? = some (.cells cc t fr)) (ht : t ≠ e) (ho : ∀ k, k ≠ b → w'.heap[k]? = w.heap[k]?) : Own w' B e sz p n cap cs := by
  refine ⟨h.out.1, ?_⟩
  rcases h.out.2 with h1 | ⟨g, cp, cur, e1, e2, e3, e4⟩
  · exact .inl h1
  · refine .inr ⟨g, cp, cur, e1, e2, ?_, e4⟩
    rw [ho g (fun e => ?_)]
    · exact e3
    · subst e; rw [e3] at hb; injection hb with hb; injection hb with _ hb _; exact ht hb.symm
end Go.Proofs.YtncfpjccfmolgaaGreatDoor.T

namespace Go.Proofs.YtncfpjccfmolgaaGreatDoor.T
open Go.ChangeShapes Go.WideShapes Go.ChangeAt Go.RowKit
open B (Pm pt Stp plc Ext WfN us jn)
open N (Nd NV NZ Nw Rw Rx Own Kept kcl vcl icl Vl C4 Up blk)

/-- All blocks of calm types stay but a change's own and that of its list; so does all below B. -/
structure Lx (B c : Nat) (j : Option Nat) (w w' : World) : Prop where
  below : Below B w w'
  rows : ∀ (b : Nat) (cs : Array Value) (t : TypeId) (fr : Nat × Nat), w.heap[b]? = some (.cells cs t fr) → G.Calm t → b ≠ c → j ≠ some b → w'.heap[b]? = some (.cells cs t fr)
theorem Lx.ofKept {B c : Nat} {j : Option Nat} {w w' : World} (k : Kept w w') (hB : B ≤ w.heap.size) : Lx B c j w w' := ⟨k.out.mono hB, fun _ _ _ _ h _ _ _ => k.block h⟩
theorem Lx.size {B c : Nat} {j : Option Nat} {w w' : World} (h : Lx B c j w w') : w.heap.size ≤ w'.heap.size := h.below.size
theorem Lx.trans {B c : Nat} {j : Option Nat} {a b d : World} (h : Lx B c j a b) (k : Lx B c j b d) : Lx B c j a d := ⟨h.below.trans k.below, fun x cs t fr hx ht h1 h2 => k.rows x cs t fr (h.rows x cs t fr hx ht h1 h2) ht h1 h2⟩
theorem Lx.on {B c : Nat} {j : Option Nat} {a b d : World} (h : Lx B c j a b) (k : G.On B b d) : Lx B c j a d := ⟨h.below.trans k.below, fun x cs t fr hx ht h1 h2 => k.rows x cs t fr (h.rows x cs t fr hx ht h1 h2) ht⟩
theorem Lx.kept {B c : Nat} {j : Option Nat} {a b d : World} (h : Lx B c j a b) (k : Kept b d) (hB : B ≤ a.heap.size) : Lx B c j a d := h.trans (Lx.ofKept k (Nat.le_trans hB h.size))
end Go.Proofs.YtncfpjccfmolgaaGreatDoor.T

namespace Go.Proofs.YtncfpjccfmolgaaGreatDoor.T
open Go.ChangeShapes Go.WideShapes Go.ChangeAt Go.RowKit
open B (us_pt Pm pt Stp plc Ext WfN us jn Lv Sg Pf Mk En pre post fm)
open N (Nd NV NZ Nw Rw Rx Own Kept kcl vcl icl Vl C4 Up blk)

/-- There is no page more: which ones were taken on the way. -/
structure Er (m : Nat) (M M' : Pm) (k : Nat) : Prop where
  ext : Ext M M'
  out : ∃ added : List Nat, added.length ≤ k ∧ ∀ q, us M' q = us M q + added.count q
  full : ∀ j, 2 ≤ j → j < m → (M' j).isSome = true
theorem Er.mono {m : Nat} {M M' : Pm} {k k' : Nat} (h : Er m M M' k) (hk : k ≤ k') : Er m M M' k' := ⟨h.ext, by obtain ⟨a, b, c⟩ := h.out; exact ⟨a, Nat.le_trans b hk, c⟩, h.full⟩
end Go.Proofs.YtncfpjccfmolgaaGreatDoor.T

namespace Go.Proofs.YtncfpjccfmolgaaGreatDoor.T
open Go.ChangeShapes Go.WideShapes Go.ChangeAt Go.RowKit
open B (Pm pt Stp plc Ext WfN us jn Lv Sg Pf Mk En pre post fm fmN pgN Tr Tree con pt_ext)
open N (Nd NV NZ Nw Rw Rx Own Kept kcl vcl icl Vl C4 Up blk)

/-- crown went well. -/
def COk (B p m : Nat) (M' : Pm) (root : Int) (W : World) (e : Ending) (w' : World) : Prop := e = .returned (.tuple #[.int .i64 root, .int .i64 0]) ∧ Pv B w' p m M' ∧ G.On B W w'
def CErr (B p m : Nat) (M' : Pm) (W : World) (e : Ending) (w' : World) : Prop := e = .returned (.tuple #[.int .i64 0, .int .i64 80]) ∧ Pv B w' p m M' ∧ G.On B W w'

end Go.Proofs.YtncfpjccfmolgaaGreatDoor.T

namespace Go.Proofs.YtncfpjccfmolgaaGreatDoor.T
open Go.ChangeShapes Go.WideShapes Go.ChangeAt Go.RowKit
open B (Pm pt Stp plc Ext WfN us jn Lv Sg Pf Mk En pre post fm fmN pgN Tr Tree con path path_length path_pf path_next cA cC)
open N (Nd NV NZ Nw Rw Rx Own Kept kcl vcl icl Vl C4 Up blk)

/-- All blocks of calm types stay but a tree's own; so does all below B. -/
structure Tx (B t : Nat) (w w' : World) : Prop where
  below : Below B w w'
  rows : ∀ (b : Nat) (cs : Array Value) (ty : TypeId) (fr : Nat × Nat), w.heap[b]? = some (.cells cs ty fr) → G.Calm ty → b ≠ t → w'.heap[b]? = some (.cells cs ty fr)
theorem Tx.ofOn {B t : Nat} {w w' : World} (h : G.On B w w') : Tx B t w w' := ⟨h.below, fun b cs ty fr hb hc _ => h.rows b cs ty fr hb hc⟩
theorem Tx.trans {B t : Nat} {a b c : World} (h : Tx B t a b) (k : Tx B t b c) : Tx B t a c := ⟨h.below.trans k.below, fun x cs ty fr hx hc hn => k.rows x cs ty fr (h.rows x cs ty fr hx hc hn) hc hn⟩
theorem Tx.size {B t : Nat} {w w' : World} (h : Tx B t w w') : w.heap.size ≤ w'.heap.size := h.below.size

/-- What replace did. -/
def RPost (kx B t p m : Nat) (root : Int) (M0 : Pm) (l : List En) (w : World) (e : Ending) (w' : World) : Prop :=
  (e = .returned (.int .i64 0) ∧ ∃ M' r, Tree M' r l ∧ TAt w' t p r ∧ Pv B w' p m M' ∧ Tx B t w w') ∨ (e = .returned (.int .i64 80) ∧ ∃ M', Er m M0 M' kx ∧ TAt w' t p root ∧ Pv B w' p m M' ∧ Tx B t w w')

end Go.Proofs.YtncfpjccfmolgaaGreatDoor.T

namespace Go.Proofs.YtncfpjccfmolgaaGreatDoor.T
open Go.ChangeShapes Go.WideShapes Go.ChangeAt Go.RowKit
open B (stpAt nodeAt_some fm_some fmN_leaf con_leaf leafm pg_some pgN tr_deep Wf Pm pt Stp plc Ext WfN us us_pt pt_same pt_ext jn Lv Sg Pf Mk En R pre post fm fmN pgN Tr Tree con path path_length path_pf path_next cA cC got path_got)
open N (Nd NV NZ Nw Rw Rx Own Kept kcl vcl icl Vl C4 C3 Up blk)

/-- What crown does in an empty tree. -/
theorem crown_new {B : Nat} {w : World} {c t p m : Nat} {jv : Value} {root : Int} {M : Pm} (hC : CAt w c t jv) (hT : TAt w t p root) (hV : Pv B w p m M) (hM : ∀ q, M q = none) (hB : B ≤ w.heap.size) (hL : S.Lds w)
    {l : Bool} {kp : Option Addr} {nk kc : Nat} {vp : Option Addr} {nv vc : Nat} {ip : Option Addr} {ni ic : Nat} {y : Nd} (hy : NV w l kp nk kc vp nv vc ip ni ic y) {key : ByteArray} {v : Vl} (hyd : y = ⟨true, [key], [v], []⟩) (gy : N.Good y) (hs : y.put.length ≤ 237) :
    (∃ M' r, Tree M' r [(key, v)] ∧ Calls Tryz.prog 57 #[.pointer (some ⟨c, 0, none⟩), .agg #[.bool l, .slice kp nk kc, .slice vp nv vc, .slice ip ni ic]] w (COk B p m M' r w)) ∨
    (Er m M M 0 ∧ Calls Tryz.prog 57 #[.pointer (some ⟨c, 0, none⟩), .agg #[.bool l, .slice kp nk kc, .slice vp nv vc, .slice ip ni ic]] w (CErr B p m M w)) := by
  have K0 : Kept w (w.alloc (.cells #[.bool l, .slice kp nk kc, .slice vp nv vc, .slice ip ni ic] 52)) := (Kept.refl w).alloc _
  have hB1 : B ≤ (w.alloc (.cells #[.bool l, .slice kp nk kc, .slice vp nv vc, .slice ip ni ic] 52)).heap.size := Nat.le_trans hB K0.size
  have oK : G.On B w (w.alloc (.cells #[.bool l, .slice kp nk kc, .slice vp nv vc, .slice ip ni ic] 52)) := G.On.ofKept ⟨K0.out⟩ hB
  have hpos : 0 < nk := by have := hy.nk; rw [hyd] at this; simp at this; omega
  cases hf : frst M m with
  | none =>
    refine .inr ⟨⟨Ext.refl _, ⟨[], by simp, fun q => by simp⟩, frst_none hf⟩, (crown_err (Q := fun w' => Pv B w' p m M ∧ G.On B w w') hpos ((put_o (hC.kept K0) (hT.kept K0) (hV.kept K0) hB1 (lds_kept hL K0) (hy.kept K0) gy hs hf).mono ?_)).mono ?_⟩
    · rintro e w' ⟨rfl, k⟩
      exact ⟨rfl, (hV.kept K0).kept k, oK.kept ⟨k.out⟩ hB⟩
    · rintro e w' ⟨rfl, a, b⟩
      exact ⟨rfl, a, b⟩
  | some n =>
    refine .inl ⟨pt M n y, (n : Nat), .inr ⟨0, n, rfl, ⟨⟨y, pt_same _ _ _, by rw [hyd]; simp, hs, by rw [hyd], gy⟩, ?_, ?_⟩, ?_⟩, ?_⟩
    · rw [fm_some (pt_same _ _ _), fmN_leaf, hyd]; simp [leafm]
    · intro q
      rw [pg_some (pt_same _ _ _), us_pt (hM n)]
      simp [pgN, us, hM q]
    · rw [fm_some (pt_same _ _ _), fmN_leaf, con_leaf, hyd]; rfl
    · refine (crown_one (n := n) (B := (w.alloc (.cells #[.bool l, .slice kp nk kc, .slice vp nv vc, .slice ip ni ic] 52)).heap.size) (Q := fun w' => Pv B w' p m (pt M n y) ∧ G.On B w w') hpos ((put_i (hC.kept K0) (hT.kept K0) (hV.kept K0) hB1 (lds_kept hL K0) (hy.kept K0) gy hs hf).mono ?_)).mono ?_
      · rintro e w' ⟨pp, pc, rfl, a1, a3, a4⟩
        exact ⟨pp, pc, rfl, a1, a3, oK.trans a4⟩
      · rintro e w' ⟨rfl, a, b⟩
        exact ⟨rfl, a, b⟩

set_option maxRecDepth 100000 in
set_option maxHeartbeats 1000000 in
theorem replace_nil {B : Nat} {w : World} {t p m : Nat} {M0 : Pm} (hT : TAt w t p (-1)) (hBt : B ≤ t) (hV : Pv B w p m M0) (hM : ∀ q, M0 q = none) (hB : B ≤ w.heap.size) (hL : S.Lds w)
    {l : Bool} {kp : Option Addr} {nk kc : Nat} {vp : Option Addr} {nv vc : Nat} {ip : Option Addr} {ni ic : Nat} {y : Nd} (hy : NV w l kp nk kc vp nv vc ip ni ic y) {key : ByteArray} {v : Vl} (hyd : y = ⟨true, [key], [v], []⟩) (gy : N.Good y) (hs : y.put.length ≤ 237) :
    Calls Tryz.prog 31 #[.pointer (some ⟨t, 0, none⟩), .slice none 0 0, .agg #[.bool l, .slice kp nk kc, .slice vp nv vc, .slice ip ni ic]] w (RPost 0 B t p m (-1) M0 [(key, v)] w) := by
  obtain ⟨W0, hW0⟩ : ∃ W0, W0 = (w.alloc (.cells #[.bool l, .slice kp nk kc, .slice vp nv vc, .slice ip ni ic] 52)).alloc (.cells #[.pointer (some ⟨t, 0, none⟩), .slice none 0 0] 119) := ⟨_, rfl⟩
  have K0 : Kept w W0 := by rw [hW0]; exact ((Kept.refl w).alloc _).alloc _
  have C0 : CAt W0 (w.heap.size + 1) t (.slice none 0 0) := ⟨by rw [hW0]; exact D.two_new w _ _⟩
  have X0 : C4 W0 w.heap.size 52 (.bool l) (.slice kp nk kc) (.slice vp nv vc) (.slice ip ni ic) := C4.mk (by rw [hW0]; exact ((Kept.refl _).alloc _).block (heap_alloc_new w _))
  have o0 : G.On B w W0 := G.On.ofKept ⟨K0.out⟩ hB
  have cd := crown_new C0 (hT.kept K0) (hV.kept K0) hM (Nat.le_trans hB K0.size) (lds_kept hL K0) (hy.kept K0) hyd gy hs
  obtain ⟨y0, y1, y2, y3⟩ := X0.cs
  have HT : Hid (TAt w t p (-1)) := hT
  have HC : Hid (CAt W0 (w.heap.size + 1) t (.slice none 0 0)) := C0
  have HO : Hid (G.On B w W0) := o0
  clear hV hM hB hL hy hyd gy hs K0 C0 X0 o0 hT
  rcases cd with ⟨M', rt, tr, f⟩ | ⟨er, f⟩
  · go_enter Tryz.func31, Tryz.ntmps31
    go_wp2
    rw [← hW0]
    clear hW0
    refine wp_loop_rounds 1 ?_
    rw [rounds_succ]
    go_wp2_with (go_at_call 57; (with_reducible refine f.mono ?_); rintro e w3 ⟨rfl, V3, o3⟩; obtain ⟨c0, c1⟩ := (HC.out.on o3).cs; have T3 := HT.out.on (HO.out.trans o3); have o4 := HO.out.trans o3; obtain ⟨t0, t1⟩ := T3.cs; have tf := frozen_of_row w3 t 1 _ _ T3.out)
    refine wp_loop_rounds 1 ?_
    rw [rounds_succ]
    go_wp2
    refine wp_loop_rounds 1 ?_
    rw [rounds_succ]
    have T6 : TAt (w3.setCell ⟨t, 1, none⟩ (.int .i64 rt)) t p rt := ⟨by rw [heap_setCell_same _ t 1 _ _ _ T3.out]; rfl⟩
    have o6 : Tx B t w (w3.setCell ⟨t, 1, none⟩ (.int .i64 rt)) := ⟨o4.below.setCell hBt _, fun b cs ty fr hb hc hne => by rw [heap_setCell_other w3 ⟨t, 1, none⟩ b _ hne]; exact o4.rows b cs ty fr hb hc⟩
    have V6 : Pv B (w3.setCell ⟨t, 1, none⟩ (.int .i64 rt)) p m M' := V3.ap (Ap.other T3.out (by decide) (fun k o hk hne => by rw [heap_setCell_other w3 ⟨t, 1, none⟩ k _ hne]; exact hk))
    clear V3 o3 T3 o4
    go_wp2
    go_ret
    exact .inl ⟨rfl, _, _, tr, T6, V6, o6⟩
  · go_enter Tryz.func31, Tryz.ntmps31
    go_wp2
    rw [← hW0]
    clear hW0
    refine wp_loop_rounds 1 ?_
    rw [rounds_succ]
    go_wp2_with (go_at_call 57; (with_reducible refine f.mono ?_); rintro e w3 ⟨rfl, V3, o3⟩; have o4 := HO.out.trans o3)
    go_ret
    exact .inr ⟨rfl, M0, er, HT.out.on o4, V3, Tx.ofOn o4⟩

/-- A tree as it can be read. -/
structure TreeW (M : Pm) (root : Int) (l : List En) : Prop where
  out : (root = -1 ∧ l = []) ∨ ∃ d n : Nat, root = (n : Int) ∧ d ≤ 10 ∧ Wf M d n ∧ (fm M d n).Pairwise R ∧ con (fm M d n) = l
theorem TreeW.of {M : Pm} {root : Int} {l : List En} {m : Nat} (h : Tree M root l) (hm : ∀ k x, M k = some x → k < m) (hm2 : m ≤ 1024) : TreeW M root l := by
  rcases h with ⟨a, b, _⟩ | ⟨d, n, a, b, c⟩
  · exact ⟨.inl ⟨a, b⟩⟩
  · exact ⟨.inr ⟨d, n, a, tr_deep b hm hm2, b.wf, b.ord, c⟩⟩
theorem pf_of {M : Pm} {d n : Nat} (hw : Wf M d n) (ho : (fm M d n).Pairwise R) (key : ByteArray) : Pf M key d (stpAt M key n) [] [] := by
  obtain ⟨y, hy, a, b, c⟩ := hw
  have es : stpAt M key n = ⟨n, y, plc y key⟩ := by unfold stpAt; rw [nodeAt_some hy]
  rw [fm_some hy] at ho
  rw [es]
  exact ⟨hy, a, b, c, rfl, (fun a ha => by cases ha), (fun a ha => by cases ha), by simpa using ho⟩
theorem wy_of {M : Pm} {d n : Nat} {key : ByteArray} (hp : Pf M key d (stpAt M key n) [] []) (hd : d ≤ 900) : Wy M key (path M key d n) := by
  have hl := path_length M key d n
  refine ⟨fun k s hs => ?_, fun k s s' hs hs' => ?_, by omega⟩
  · obtain ⟨h1, h2⟩ := path_pf d n [] [] hp k s hs
    refine ⟨h2.mem, h2.wf.good, h2.up, h2.kid, ?_⟩
    rw [h2.wf.leaf, hl]
    congr 1
    simp only [eq_iff_iff]
    omega
  · obtain ⟨h1, h2⟩ := path_pf d n [] [] hp k s hs
    obtain ⟨c, hc, e⟩ := path_next d n [] [] hp k s s' hs hs'
    obtain ⟨q, hq, _⟩ := h2.wf.good.ik c (List.mem_of_getElem? hc)
    rw [hc, e, hq]; simp
/-- What a key has. -/
def had (key : ByteArray) (l : List En) : Vl := (got key l).getD ⟨⟨#[]⟩, -1, 0⟩
end Go.Proofs.YtncfpjccfmolgaaGreatDoor.T
