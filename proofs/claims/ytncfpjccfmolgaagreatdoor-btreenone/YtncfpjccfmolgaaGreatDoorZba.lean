/- Joined: NNL NNM NNN NNO NNP NNS NNT NPA NPC NPD NPF NFP BA. What is proved of the functions beneath BtreeNone. Conditions: those that each row names. -/
import Derived.Test.YtncfpjccfmolgaaGreatDoorZay
import Derived.Test.YtncfpjccfmolgaaGreatDoorZaz
namespace Go.Proofs.YtncfpjccfmolgaaGreatDoor.N
open Go.ChangeShapes Go.WideShapes Go.ChangeAt Go.RowKit

/-- A node. -/
structure Nd where
  leaf : Bool
  ks : List ByteArray
  vs : List Vl
  is : List Int

def Nd.item (x : Nd) (i : Nat) : List Nat := keyN (x.ks[i]?.getD ⟨#[]⟩) ++ (if x.leaf = true then valN (x.vs[i]?.getD ⟨⟨#[]⟩, -1, 0⟩) else numL (x.is[i + 1]?.getD 0).toNat)
def Nd.items (x : Nd) : Nat → List Nat
  | 0 => []
  | i + 1 => x.items i ++ x.item i
def Nd.head (x : Nd) : List Nat := numL x.ks.length ++ (if x.leaf = true then [] else numL (x.is[0]?.getD 0).toNat)
/-- A node's bytes. -/
def Nd.put (x : Nd) : List Nat := x.head ++ x.items x.ks.length

/-- A node that may be. -/
structure Good (x : Nd) : Prop where
  few : x.ks.length ≤ 120
  small : ∀ k ∈ x.ks, k.size ≤ 64
  lv : x.leaf = true → x.vs.length = x.ks.length ∧ x.is = []
  li : x.leaf = false → x.is.length = x.ks.length + 1 ∧ x.vs = []
  ok : ∀ v ∈ x.vs, Okv v
  ik : ∀ i ∈ x.is, ∃ q : Nat, i = (q : Int) ∧ q ≤ 16383

/-- Of which type the block of a slice is; that one that is nil has no room. -/
structure Rx (w : World) (e : TypeId) (p : Option Addr) (c : Nat) : Prop where
  typ : ∀ b off ph, p = some ⟨b, off, ph⟩ → ∃ cs fr, w.heap[b]? = some (.cells cs e fr)
  nil : p = none → c = 0
/-- That a slice's block is among those from B on. -/
def Nw (B : Nat) (p : Option Addr) : Prop := ∀ b off ph, p = some ⟨b, off, ph⟩ → B ≤ b
theorem Own.nw {w : World} {B : Nat} {e : TypeId} {sz : Nat} {p : Option Addr} {n c : Nat} {cs : List Value} (h : Own w B e sz p n c cs) : Nw B p := by
  intro b off ph e1
  rcases h.cases with ⟨e2, _⟩ | ⟨g, cur, e2, hB, _⟩
  · rw [e2] at e1; cases e1
  · rw [e2] at e1; injection e1 with e1; injection e1 with e1; subst e1; exact hB
theorem Nw.mono {B B' : Nat} {p : Option Addr} (h : Nw B p) (k : B' ≤ B) : Nw B' p := fun b off ph e => Nat.le_trans k (h b off ph e)
theorem Rx.none (w : World) (e : TypeId) : Rx w e none 0 := ⟨(fun _ _ _ h => by cases h), fun _ => rfl⟩
theorem Rx.kept {w w' : World} {e : TypeId} {p : Option Addr} {c : Nat} (h : Rx w e p c) (k : Kept w w') : Rx w' e p c :=
  ⟨(fun b off ph hp => by obtain ⟨cs, fr, hb⟩ := h.typ b off ph hp; exact ⟨cs, fr, (k.out.block b (Array.getElem?_eq_some_iff.1 hb).1).trans hb⟩), h.nil⟩
theorem Own.rx {w : World} {B : Nat} {e : TypeId} {sz : Nat} {p : Option Addr} {n c : Nat} {cs : List Value} (k : Own w B e sz p n c cs) : Rx w e p c := by
  rcases k.cases with ⟨rfl, _, rfl, _⟩ | ⟨g, cur, rfl, _, _, hg, _⟩
  · exact Rx.none w e
  · refine ⟨fun b off ph hp => ?_, fun h => by cases h⟩
    injection hp with hp
    injection hp with hp _ _
    subst hp
    exact ⟨cur, _, hg⟩

/-- A node in memory. -/
structure NV (w : World) (l : Bool) (kp : Option Addr) (nk kc : Nat) (vp : Option Addr) (nv vc : Nat) (ip : Option Addr) (ni ic : Nat) (x : Nd) : Prop where
  hl : x.leaf = l
  k : Rw w 1 kp nk kc (kcl x.ks)
  v : Rw w 3 vp nv vc (vcl x.vs)
  i : Rw w 1 ip ni ic (icl x.is)
  kx : Rx w 9 kp kc
  vx : Rx w 33 vp vc
  ix : Rx w 3 ip ic

theorem NV.of {w : World} {l : Bool} {kp : Option Addr} {nk kc : Nat} {vp : Option Addr} {nv vc : Nat} {ip : Option Addr} {ni ic : Nat} {x : Nd} {B1 B2 B3 : Nat} (hl : x.leaf = l) (k : Own w B1 9 1 kp nk kc (kcl x.ks)) (v : Own w B2 33 3 vp nv vc (vcl x.vs)) (i : Own w B3 3 1 ip ni ic (icl x.is)) : NV w l kp nk kc vp nv vc ip ni ic x :=
  ⟨hl, k.rw, v.rw, i.rw, k.rx, v.rx, i.rx⟩

theorem NV.kept {w w' : World} {l : Bool} {kp : Option Addr} {nk kc : Nat} {vp : Option Addr} {nv vc : Nat} {ip : Option Addr} {ni ic : Nat} {x : Nd} (h : NV w l kp nk kc vp nv vc ip ni ic x) (k : Kept w w') : NV w' l kp nk kc vp nv vc ip ni ic x := ⟨h.hl, k.rw h.k, k.rw h.v, k.rw h.i, h.kx.kept k, h.vx.kept k, h.ix.kept k⟩
theorem NV.nk {w : World} {l : Bool} {kp : Option Addr} {nk kc : Nat} {vp : Option Addr} {nv vc : Nat} {ip : Option Addr} {ni ic : Nat} {x : Nd} (h : NV w l kp nk kc vp nv vc ip ni ic x) : x.ks.length = nk := by
  have := h.k.len; rwa [kcl_length, Nat.mul_one] at this
theorem NV.nv {w : World} {l : Bool} {kp : Option Addr} {nk kc : Nat} {vp : Option Addr} {nv vc : Nat} {ip : Option Addr} {ni ic : Nat} {x : Nd} (h : NV w l kp nk kc vp nv vc ip ni ic x) : x.vs.length = nv := by
  have := h.v.len; rw [vcl_length] at this; omega
theorem NV.ni {w : World} {l : Bool} {kp : Option Addr} {nk kc : Nat} {vp : Option Addr} {nv vc : Nat} {ip : Option Addr} {ni ic : Nat} {x : Nd} (h : NV w l kp nk kc vp nv vc ip ni ic x) : x.is.length = ni := by
  have := h.i.len; rwa [icl_length, Nat.mul_one] at this

theorem Rw.some {w : World} {sz : Nat} {p : Option Addr} {n c : Nat} {cs : List Value} (h : Rw w sz p n c cs) (hn : 0 < n) : ∃ b off, p = some ⟨b, off, none⟩ ∧ ∀ j u, cs[j]? = some u → w.cell? ⟨b, off + j, none⟩ = some u :=
  h.out.resolve_left (fun q => by omega)

theorem item_walk {w : World} {l : Bool} {kp : Option Addr} {nk kc : Nat} {vp : Option Addr} {nv vc : Nat} {ip : Option Addr} {ni ic : Nat} {x : Nd} (h : NV w l kp nk kc vp nv vc ip ni ic x) (g : Good x) (i : Nat) (hi : i < nk) :
    Calls Tryz.prog 64 #[.agg #[.bool l, .slice kp nk kc, .slice vp nv vc, .slice ip ni ic], .int .i64 (i : Nat)] w fun e w' => e = .returned (.string (bs (x.item i))) ∧ Kept w w' := by
  have hnk := h.nk
  have hnv := h.nv
  have hni := h.ni
  obtain ⟨k, hk⟩ : ∃ k, x.ks[i]? = some k := ⟨_, List.getElem?_eq_getElem (by omega)⟩
  obtain ⟨kb, ko, rfl, hkc⟩ := h.k.some (by omega)
  have c0 := hkc i _ (kcl_at hk)
  have hks := g.small k (List.mem_of_getElem? hk)
  cases l with
  | true =>
    have hv2 := (g.lv h.hl).1
    obtain ⟨v, hv⟩ : ∃ v, x.vs[i]? = some v := ⟨_, List.getElem?_eq_getElem (by omega)⟩
    obtain ⟨vb, vo, rfl, hvc⟩ := h.v.some (by omega)
    obtain ⟨a0, a1, a2⟩ := vcl_at hv
    have b0 := hvc _ _ a0
    have b1 := hvc _ _ a1
    have b2 := hvc _ _ a2
    rw [← Nat.add_assoc] at b1 b2
    have e1 : x.item i = keyN k ++ valN v := by unfold Nd.item; rw [hk, hv, if_pos h.hl]; rfl
    rw [e1]
    obtain ⟨d, p, ln⟩ := v
    rcases g.ok _ (List.mem_of_getElem? hv) with ⟨h1, h2, h3⟩ | ⟨h1, p', l', h2, h3, h4, h5, h6⟩
    · simp only at h1 h2 h3
      subst h1; subst h2
      have e2 : valN ⟨d, -1, 0⟩ = numL 0 ++ (numL d.size ++ un d) := by unfold valN; rw [if_pos (by show (-1 : Int) < 0; decide)]
      rw [e2]
      exact item_here hi (by omega) c0 b0 b1 b2 hks h3
    · simp only at h1 h2 h4
      subst h2; subst h4
      have e2 : valN ⟨d, (p' : Int), (l' : Int)⟩ = numL 1 ++ (numL p' ++ numL l') := by unfold valN; rw [if_neg (by show ¬ (p' : Int) < 0; omega)]; rfl
      rw [e2]
      exact item_apart hi (by omega) c0 b0 b1 b2 hks (by omega) (by omega)
  | false =>
    have hv2 := (g.li h.hl).1
    obtain ⟨v, hv⟩ : ∃ v, x.is[i + 1]? = some v := ⟨_, List.getElem?_eq_getElem (by omega)⟩
    obtain ⟨ib, io, rfl, hvc⟩ := h.i.some (by omega)
    have b0 := hvc _ _ (icl_at hv)
    obtain ⟨q, rfl, hq⟩ := g.ik v (List.mem_of_getElem? hv)
    have e1 : x.item i = keyN k ++ numL q := by unfold Nd.item; rw [hk, hv, if_neg (by rw [h.hl]; decide)]; rfl
    rw [e1]
    exact item_inner hi (by omega) (by have := g.few; omega) c0 b0 hks (by omega)

/-- A builder while it is written: the world ahead of it, what is written. -/
structure St (W1 : World) (L : List Nat) (W : World) : Prop where
  b : Lib.IsBuilderF 131 5 W1.heap.size W1.heap.size (Lib.byteCells (L.map UInt8.ofNat)) W
  k : Kept W1 W
  len : L.length ≤ 100000

theorem St.start (W1 : World) : St W1 [] (W1.alloc (.cells #[.pointer none, .slice none 0 0] 131)) :=
  ⟨.inl ⟨Nat.le_refl _, .slice none 0 0, heap_alloc_new W1 _, World.ownsRowF_nil _ _ _ _, by simp [Value.ownBlock]⟩, (Kept.refl W1).alloc _, Nat.zero_le _⟩
theorem St.kept {W1 W W' : World} {L : List Nat} (h : St W1 L W) (k : Kept W W') : St W1 L W' := by
  have key : ∀ p, Lib.BuilderAtF 131 5 W1.heap.size W1.heap.size p (Lib.byteCells (L.map UInt8.ofNat)) W → Lib.BuilderAtF 131 5 W1.heap.size W1.heap.size p (Lib.byteCells (L.map UInt8.ofNat)) W' := by
    rintro p ⟨h1, v, h2, h3, h4⟩
    exact ⟨h1, v, k.block h2, h3.kept (k.grown none) (by cases v.ownBlock <;> simp), h4⟩
  exact ⟨h.b.elim (fun x => .inl (key _ x)) (fun x => .inr (key _ x)), h.k.trans k, h.len⟩
theorem St.write {W1 W : World} {L : List Nat} (h : St W1 L W) (M : List Nat) (hm : L.length + M.length ≤ 100000) :
    Calls Tryz.prog 62 #[.pointer (some ⟨W1.heap.size, 0, none⟩), .string (bs M)] W fun e w' => e = .returned (.tuple #[.int .i64 ((bs M).size : Nat), .nilIface]) ∧ St W1 (L ++ M) w' := by
  refine (Tryz.Builder_WriteString_k _ _ _ (bs M) W h.b (by rw [Lib.byteCells_length, List.length_map, bs_size]; omega) h.k.size).mono ?_
  rintro e w' ⟨rfl, h1, h2, h3⟩
  refine ⟨rfl, ⟨?_, ⟨h.k.out.trans h2⟩, by rw [List.length_append]; exact hm⟩⟩
  rw [List.map_append, Lib.byteCells_append]
  exact Or.inr h1
theorem St.text {W1 W : World} {L : List Nat} (h : St W1 L W) :
    Calls Tryz.prog 65 #[.pointer (some ⟨W1.heap.size, 0, none⟩)] W fun e w' => e = .returned (.string (bs L)) ∧ Kept W1 w' := by
  refine (Tryz.Builder_String_any_k _ _ (L.map UInt8.ofNat) W h.b h.k.size).mono ?_
  rintro e w' ⟨rfl, _, h2, _⟩
  exact ⟨rfl, ⟨h.k.out.trans h2⟩⟩

theorem item_length {x : Nd} (g : Good x) (i : Nat) (hi : i < x.ks.length) : (x.item i).length ≤ 115 := by
  obtain ⟨k, hk⟩ : ∃ k, x.ks[i]? = some k := ⟨_, List.getElem?_eq_getElem hi⟩
  have a := keyN_length k (g.small k (List.mem_of_getElem? hk))
  unfold Nd.item
  rw [hk, List.length_append]
  cases hl : x.leaf with
  | true =>
    have hv2 := (g.lv hl).1
    obtain ⟨v, hv⟩ : ∃ v, x.vs[i]? = some v := ⟨_, List.getElem?_eq_getElem (by omega)⟩
    have b := valN_length v (g.ok _ (List.mem_of_getElem? hv))
    rw [if_pos rfl, hv]
    show (keyN k).length + (valN v).length ≤ 115
    omega
  | false =>
    have hv2 := (g.li hl).1
    obtain ⟨v, hv⟩ : ∃ v, x.is[i + 1]? = some v := ⟨_, List.getElem?_eq_getElem (by omega)⟩
    obtain ⟨q, rfl, hq⟩ := g.ik v (List.mem_of_getElem? hv)
    have b := num_small q (by omega)
    rw [if_neg (by decide), hv]
    show (keyN k).length + (numL q).length ≤ 115
    omega
theorem items_length {x : Nd} (g : Good x) : ∀ i, i ≤ x.ks.length → (x.items i).length ≤ i * 115
  | 0, _ => by simp [Nd.items]
  | i + 1, h => by
    have a := items_length g i (by omega)
    have b := item_length g i (by omega)
    rw [Nd.items, List.length_append]
    omega
theorem head_length {x : Nd} (g : Good x) : x.head.length ≤ 6 := by
  have a := num_small x.ks.length (by have := g.few; omega)
  unfold Nd.head
  rw [List.length_append]
  split
  · simp; omega
  · rename_i hl
    have hv2 := (g.li (by simpa using hl)).1
    obtain ⟨v, hv⟩ : ∃ v, x.is[0]? = some v := ⟨_, List.getElem?_eq_getElem (by omega)⟩
    obtain ⟨q, rfl, hq⟩ := g.ik v (List.mem_of_getElem? hv)
    have b := num_small q (by omega)
    rw [hv]
    show (numL x.ks.length).length + (numL q).length ≤ 6
    omega
end Go.Proofs.YtncfpjccfmolgaaGreatDoor.N

namespace Go.Proofs.YtncfpjccfmolgaaGreatDoor.N
open Go.ChangeShapes Go.WideShapes Go.ChangeAt Go.RowKit

/-- The node's own copy, whole. -/
theorem whole_walk {w : World} {l : Bool} {kp : Option Addr} {nk kc : Nat} {vp : Option Addr} {nv vc : Nat} {ip : Option Addr} {ni ic : Nat} {x : Nd} (h : NV w l kp nk kc vp nv vc ip ni ic x) (g : Good x) :
    Calls Tryz.prog 61 #[.agg #[.bool l, .slice kp nk kc, .slice vp nv vc, .slice ip ni ic]] w fun e w' => ∃ kp' kc' vp' nv' vc' ip' ni' ic', e = .returned (.agg #[.bool l, .slice kp' nk kc', .slice vp' nv' vc', .slice ip' ni' ic']) ∧ Own w' w.heap.size 9 1 kp' nk kc' (kcl x.ks) ∧ Own w' w.heap.size 33 3 vp' nv' vc' (vcl x.vs) ∧ Own w' w.heap.size 3 1 ip' ni' ic' (icl x.is) ∧ Kept w w' := by
  have hnk := h.nk
  have hnv := h.nv
  have hni := h.ni
  have hf := g.few
  cases l with
  | true =>
    obtain ⟨e1, e2⟩ := g.lv h.hl
    obtain rfl : nv = nk := by omega
    refine (whole_leaf h.k h.v (kcl_one _) (vcl_one _) (by omega)).mono ?_
    rintro e w' ⟨kp', kc', vp', rfl, o1, o2, k⟩
    refine ⟨_, _, _, _, _, _, _, _, rfl, o1, o2, ?_, k⟩
    rw [e2]
    exact ⟨World.ownsRow_nil _ _ _ _⟩
  | false =>
    obtain ⟨e1, e2⟩ := g.li h.hl
    obtain rfl : ni = nk + 1 := by omega
    refine (whole_inner h.k h.i (kcl_one _) (icl_one _) (by omega)).mono ?_
    rintro e w' ⟨kp', kc', vp', rfl, o1, o2, k⟩
    refine ⟨_, _, _, _, _, _, _, _, rfl, o1, ?_, o2, k⟩
    rw [e2]
    exact ⟨World.ownsRow_nil _ _ _ _⟩

set_option maxHeartbeats 1000000 in
set_option maxRecDepth 100000 in
theorem put_true {w : World} {kp : Option Addr} {nk kc : Nat} {vp : Option Addr} {nv vc : Nat} {ip : Option Addr} {ni ic : Nat} {x : Nd} (h : NV w true kp nk kc vp nv vc ip ni ic x) (g : Good x) :
    Calls Tryz.prog 37 #[.agg #[.bool true, .slice kp nk kc, .slice vp nv vc, .slice ip ni ic]] w fun e w' => e = .returned (.string (bs x.put)) ∧ Kept w w' := by
  have HW : Hid (∀ W, Kept w W → Calls Tryz.prog 61 #[.agg #[.bool true, .slice kp nk kc, .slice vp nv vc, .slice ip ni ic]] W fun e w' => ∃ kp' kc' vp' nv' vc' ip' ni' ic', e = .returned (.agg #[.bool true, .slice kp' nk kc', .slice vp' nv' vc', .slice ip' ni' ic']) ∧ Own w' W.heap.size 9 1 kp' nk kc' (kcl x.ks) ∧ Own w' W.heap.size 33 3 vp' nv' vc' (vcl x.vs) ∧ Own w' W.heap.size 3 1 ip' ni' ic' (icl x.is) ∧ Kept W w') := fun W hW => whole_walk (h.kept hW) g
  have hf : nk ≤ 120 := by have := g.few; have := h.nk; omega
  have G : Hid (Good x) := g
  have HKL : Hid (x.ks.length = nk) := h.nk
  have HLF : Hid (x.leaf = true) := h.hl
  have HN : Hid (∀ W, Calls Tryz.prog 63 #[.int .i64 (nk : Nat)] W fun e w' => e = .returned (.string (bs (numL nk))) ∧ Kept W w') := fun W => number_walk nk (by omega) W
  have HHD : Hid (x.head = [] ++ numL nk) := by show _ = _; unfold Nd.head; rw [if_pos h.hl, h.nk]; simp
  have K0 : Kept w (w.alloc (.cells #[.bool true, .slice kp nk kc, .slice vp nv vc, .slice ip ni ic] 52)) := (Kept.refl w).alloc _
  have X0 := C4.alloc w 52 (.bool true) (.slice kp nk kc) (.slice vp nv vc) (.slice ip ni ic)
  have S0 := size_alloc w (.cells #[.bool true, .slice kp nk kc, .slice vp nv vc, .slice ip ni ic] 52)
  have HZ : Hid ((numL nk).length ≤ 3) := num_small nk (by omega)
  have HIT : Hid (∀ i, i ≤ nk → (x.items i).length ≤ i * 115) := fun i hi => items_length g i (by have := h.nk; omega)
  have HIL : Hid (∀ i, i < nk → (x.item i).length ≤ 115) := fun i hi => item_length g i (by have := h.nk; omega)
  have HHL : Hid (x.head.length ≤ 6) := head_length g
  clear h g
  go_enter Tryz.func37, Tryz.ntmps37
  go_wp2_with (first
    | (go_at_call 61
       (with_reducible refine (HW.out _ K0).mono ?_)
       rintro e v1 ⟨kp1, kc1, vp1, nv1, vc1, ip1, ni1, ic1, rfl, O1, O2, O3, k1⟩
       have X1 := X0.kept k1
       have K1 := K0.trans k1
       rw [S0] at O1 O2 O3
       obtain ⟨⟨g0, f0⟩, ⟨g1, f1⟩, ⟨g2, f2⟩, ⟨g3, f3⟩, hfin⟩ := ready4 X1.out (.bool true) (.slice kp1 nk kc1) (.slice vp1 nv1 vc1) (.slice ip1 ni1 ic1)
       obtain ⟨W1, hW1, V1, K2, hsz, c4⟩ : ∃ W1, Hid (W1 = ((((v1.setCell ⟨w.heap.size, 0, none⟩ (.bool true)).setCell ⟨w.heap.size, 1, none⟩ (.slice kp1 nk kc1)).setCell ⟨w.heap.size, 2, none⟩ (.slice vp1 nv1 vc1)).setCell ⟨w.heap.size, 3, none⟩ (.slice ip1 ni1 ic1))) ∧ NV W1 true kp1 nk kc1 vp1 nv1 vc1 ip1 ni1 ic1 x ∧ Kept w W1 ∧ Hid (W1.heap.size = v1.heap.size) ∧ C4 W1 w.heap.size 52 (.bool true) (.slice kp1 nk kc1) (.slice vp1 nv1 vc1) (.slice ip1 ni1 ic1) := ⟨_, rfl, (NV.of HLF.out (O1.st4 (Nat.lt_succ_self _) _ _ _ _) (O2.st4 (Nat.lt_succ_self _) _ _ _ _) (O3.st4 (Nat.lt_succ_self _) _ _ _ _)), K1.st4 (Nat.le_refl _) _ _ _ _, (by show _ = _; rw [size_set, size_set, size_set, size_set]), ⟨hfin⟩⟩
       have HWr : Hid (∀ W L M, St W1 L W → L.length + M.length ≤ 100000 → Calls Tryz.prog 62 #[.pointer (some ⟨v1.heap.size, 0, none⟩), .string (bs M)] W fun e w' => e = .returned (.tuple #[.int .i64 ((bs M).size : Nat), .nilIface]) ∧ St W1 (L ++ M) w') := (fun W L M hS hM => by rw [← hsz.out]; exact hS.write M hM)
       have HTx : Hid (∀ W L, St W1 L W → Calls Tryz.prog 65 #[.pointer (some ⟨v1.heap.size, 0, none⟩)] W fun e w' => e = .returned (.string (bs L)) ∧ Kept W1 w') := (fun W L hS => by rw [← hsz.out]; exact hS.text)
       have T1 : St W1 [] (((((v1.setCell ⟨w.heap.size, 0, none⟩ (.bool true)).setCell ⟨w.heap.size, 1, none⟩ (.slice kp1 nk kc1)).setCell ⟨w.heap.size, 2, none⟩ (.slice vp1 nv1 vc1)).setCell ⟨w.heap.size, 3, none⟩ (.slice ip1 ni1 ic1)).alloc (.cells #[.pointer none, .slice none 0 0] 131)) := (by rw [← hW1.out]; exact St.start W1)
       have q1 := (c4.kept T1.k).cs.2.1
       clear HW X0 K0 S0 O1 O2 O3 k1 X1 K1 hfin)
    | (go_at_call 63
       (with_reducible refine (HN.out _).mono ?_)
       rintro e v2 ⟨rfl, k2⟩
       have T2 := T1.kept k2
       clear T1 HN k2 g0 f0 g1 f1 g2 f2 g3 f3)
    | (go_at_call 62
       (with_reducible refine (HWr.out _ _ _ T2 (by have := HZ.out; simp; omega)).mono ?_)
       rintro e v3 ⟨rfl, T3⟩
       obtain ⟨a0, a1, a2, a3⟩ := (c4.kept T3.k).cs
       clear T2
       skip))
  have T9 : St W1 (x.head ++ x.items 0) v3 := by
    have : x.head ++ x.items 0 = [] ++ numL nk := by rw [HHD.out]; simp [Nd.items]
    rw [this]; exact T3
  go_loopg [24] nk (fun gg v wx => ∃ i : Nat, v = .int .i64 (i : Nat) ∧ Hid (gg = nk - i) ∧ i ≤ nk ∧ Hid (St W1 (x.head ++ x.items i) wx))
  case atStart => exact ⟨0, rfl, rfl, Nat.zero_le _, T9⟩
  case round =>
    obtain ⟨i, rfl, hg, hin, T⟩ := hrel
    by_cases h1 : i < nk
    · have h1' : (i : Int) < (nk : Int) := by omega
      obtain ⟨b0, b1, b2, b3⟩ := (c4.kept T.out.k).cs
      have HI : Hid (∀ W, Kept W1 W → Calls Tryz.prog 64 #[.agg #[.bool true, .slice kp1 nk kc1, .slice vp1 nv1 vc1, .slice ip1 ni1 ic1], .int .i64 (i : Nat)] W fun e w' => e = .returned (.string (bs (x.item i))) ∧ Kept W w') := fun W hW => item_walk (V1.kept hW) G.out i h1
      have hlen : (x.head ++ x.items i).length + (x.item i).length ≤ 100000 := by
        have p1 := HIT.out i hin
        have p2 := HIL.out i h1
        have p3 := HHL.out
        rw [List.length_append]
        omega
      have HLen : Hid ((x.head ++ x.items i).length + (x.item i).length ≤ 100000) := hlen
      clear hlen
      go_wp2_with (first
        | (go_at_call 64
           (with_reducible refine (HI.out _ T.out.k).mono ?_)
           rintro e v5 ⟨rfl, k5⟩
           have T5 := T.out.kept k5)
        | (go_at_call 62
           (with_reducible refine (HWr.out _ _ _ T5 HLen.out).mono ?_)
           rintro e v6 ⟨rfl, T6⟩))
      go_roundg (nk - (i + 1))
      case measure => rw [hg.out]; omega
      case rel => exact ⟨i + 1, by go_num, rfl, by omega, by rw [Nd.items, ← List.append_assoc]; exact T6⟩
    · obtain rfl : i = nk := by omega
      have h1' : ¬ ((i : Int) < (i : Int)) := by omega
      go_wp2_with (first
        | (go_at_call 65
           (with_reducible refine (HTx.out _ _ T.out).mono ?_)
           rintro e v7 ⟨rfl, k7⟩))
      go_ret
      refine ⟨?_, K2.trans k7⟩
      unfold Nd.put
      rw [HKL.out]
      rfl

set_option maxHeartbeats 1000000 in
set_option maxRecDepth 100000 in
theorem put_false {w : World} {kp : Option Addr} {nk kc : Nat} {vp : Option Addr} {nv vc : Nat} {ip : Option Addr} {ni ic : Nat} {x : Nd} (h : NV w false kp nk kc vp nv vc ip ni ic x) (g : Good x) :
    Calls Tryz.prog 37 #[.agg #[.bool false, .slice kp nk kc, .slice vp nv vc, .slice ip ni ic]] w fun e w' => e = .returned (.string (bs x.put)) ∧ Kept w w' := by
  have HW : Hid (∀ W, Kept w W → Calls Tryz.prog 61 #[.agg #[.bool false, .slice kp nk kc, .slice vp nv vc, .slice ip ni ic]] W fun e w' => ∃ kp' kc' vp' nv' vc' ip' ni' ic', e = .returned (.agg #[.bool false, .slice kp' nk kc', .slice vp' nv' vc', .slice ip' ni' ic']) ∧ Own w' W.heap.size 9 1 kp' nk kc' (kcl x.ks) ∧ Own w' W.heap.size 33 3 vp' nv' vc' (vcl x.vs) ∧ Own w' W.heap.size 3 1 ip' ni' ic' (icl x.is) ∧ Kept W w') := fun W hW => whole_walk (h.kept hW) g
  have hf : nk ≤ 120 := by have := g.few; have := h.nk; omega
  have G : Hid (Good x) := g
  have HKL : Hid (x.ks.length = nk) := h.nk
  have HLF : Hid (x.leaf = false) := h.hl
  have HN : Hid (∀ W, Calls Tryz.prog 63 #[.int .i64 (nk : Nat)] W fun e w' => e = .returned (.string (bs (numL nk))) ∧ Kept W w') := fun W => number_walk nk (by omega) W
  obtain ⟨q, hq0, hqs⟩ : ∃ q : Nat, x.is[0]? = some (q : Int) ∧ q ≤ 16383 := by
    have hv2 := (g.li h.hl).1
    obtain ⟨v, hv⟩ : ∃ v, x.is[0]? = some v := ⟨_, List.getElem?_eq_getElem (by omega)⟩
    obtain ⟨q, rfl, hq⟩ := g.ik v (List.mem_of_getElem? hv)
    exact ⟨q, hv, hq⟩
  have HQ0 : Hid (x.is[0]? = some (q : Int)) := hq0
  have HHD : Hid (x.head = [] ++ numL nk ++ numL q) := by show _ = _; unfold Nd.head; rw [if_neg (by rw [h.hl]; decide), h.nk, hq0]; simp
  have HQ : Hid (∀ W, Calls Tryz.prog 63 #[.int .i64 (q : Nat)] W fun e w' => e = .returned (.string (bs (numL q))) ∧ Kept W w') := fun W => number_walk q (by omega) W
  have HZ2 : Hid ((numL q).length ≤ 3) := num_small q (by omega)
  have HIL2 : Hid (x.is.length = nk + 1) := by show _ = _; have := (g.li h.hl).1; have := h.nk; omega
  clear hq0
  have K0 : Kept w (w.alloc (.cells #[.bool false, .slice kp nk kc, .slice vp nv vc, .slice ip ni ic] 52)) := (Kept.refl w).alloc _
  have X0 := C4.alloc w 52 (.bool false) (.slice kp nk kc) (.slice vp nv vc) (.slice ip ni ic)
  have S0 := size_alloc w (.cells #[.bool false, .slice kp nk kc, .slice vp nv vc, .slice ip ni ic] 52)
  have HZ : Hid ((numL nk).length ≤ 3) := num_small nk (by omega)
  have HIT : Hid (∀ i, i ≤ nk → (x.items i).length ≤ i * 115) := fun i hi => items_length g i (by have := h.nk; omega)
  have HIL : Hid (∀ i, i < nk → (x.item i).length ≤ 115) := fun i hi => item_length g i (by have := h.nk; omega)
  have HHL : Hid (x.head.length ≤ 6) := head_length g
  clear h g
  go_enter Tryz.func37, Tryz.ntmps37
  go_wp2_with (first
    | (go_at_call 61
       (with_reducible refine (HW.out _ K0).mono ?_)
       rintro e v1 ⟨kp1, kc1, vp1, nv1, vc1, ip1, ni1, ic1, rfl, O1, O2, O3, k1⟩
       have X1 := X0.kept k1
       have K1 := K0.trans k1
       rw [S0] at O1 O2 O3
       obtain ⟨⟨g0, f0⟩, ⟨g1, f1⟩, ⟨g2, f2⟩, ⟨g3, f3⟩, hfin⟩ := ready4 X1.out (.bool false) (.slice kp1 nk kc1) (.slice vp1 nv1 vc1) (.slice ip1 ni1 ic1)
       obtain ⟨W1, hW1, V1, K2, hsz, c4⟩ : ∃ W1, Hid (W1 = ((((v1.setCell ⟨w.heap.size, 0, none⟩ (.bool false)).setCell ⟨w.heap.size, 1, none⟩ (.slice kp1 nk kc1)).setCell ⟨w.heap.size, 2, none⟩ (.slice vp1 nv1 vc1)).setCell ⟨w.heap.size, 3, none⟩ (.slice ip1 ni1 ic1))) ∧ NV W1 false kp1 nk kc1 vp1 nv1 vc1 ip1 ni1 ic1 x ∧ Kept w W1 ∧ Hid (W1.heap.size = v1.heap.size) ∧ C4 W1 w.heap.size 52 (.bool false) (.slice kp1 nk kc1) (.slice vp1 nv1 vc1) (.slice ip1 ni1 ic1) := ⟨_, rfl, (NV.of HLF.out (O1.st4 (Nat.lt_succ_self _) _ _ _ _) (O2.st4 (Nat.lt_succ_self _) _ _ _ _) (O3.st4 (Nat.lt_succ_self _) _ _ _ _)), K1.st4 (Nat.le_refl _) _ _ _ _, (by show _ = _; rw [size_set, size_set, size_set, size_set]), ⟨hfin⟩⟩
       have HWr : Hid (∀ W L M, St W1 L W → L.length + M.length ≤ 100000 → Calls Tryz.prog 62 #[.pointer (some ⟨v1.heap.size, 0, none⟩), .string (bs M)] W fun e w' => e = .returned (.tuple #[.int .i64 ((bs M).size : Nat), .nilIface]) ∧ St W1 (L ++ M) w') := (fun W L M hS hM => by rw [← hsz.out]; exact hS.write M hM)
       have HTx : Hid (∀ W L, St W1 L W → Calls Tryz.prog 65 #[.pointer (some ⟨v1.heap.size, 0, none⟩)] W fun e w' => e = .returned (.string (bs L)) ∧ Kept W1 w') := (fun W L hS => by rw [← hsz.out]; exact hS.text)
       have T1 : St W1 [] (((((v1.setCell ⟨w.heap.size, 0, none⟩ (.bool false)).setCell ⟨w.heap.size, 1, none⟩ (.slice kp1 nk kc1)).setCell ⟨w.heap.size, 2, none⟩ (.slice vp1 nv1 vc1)).setCell ⟨w.heap.size, 3, none⟩ (.slice ip1 ni1 ic1)).alloc (.cells #[.pointer none, .slice none 0 0] 131)) := (by rw [← hW1.out]; exact St.start W1)
       have q1 := (c4.kept T1.k).cs.2.1
       clear HW X0 K0 S0 O1 O2 O3 k1 X1 K1 hfin)
    | (go_at_call 63
       (with_reducible refine (HN.out _).mono ?_)
       rintro e v2 ⟨rfl, k2⟩
       have T2 := T1.kept k2
       clear T1 HN k2 g0 f0 g1 f1 g2 f2 g3 f3)
    | (go_at_call 62
       (with_reducible refine (HWr.out _ _ _ T2 (by have := HZ.out; simp; omega)).mono ?_)
       rintro e v3 ⟨rfl, T3⟩
       obtain ⟨a0, a1, a2, a3⟩ := (c4.kept T3.k).cs
       clear T2
       have hni := V1.ni
       rw [HIL2.out] at hni
       subst hni
       obtain ⟨ib, io, rfl, hic⟩ := V1.i.some (Nat.succ_pos _)
       have hq1 := T3.k.cell (hic 0 _ (icl_at HQ0.out))
       rw [Nat.add_zero] at hq1
       clear hic)
    | (go_at_call 63
       (with_reducible refine (HQ.out _).mono ?_)
       rintro e v4 ⟨rfl, k4⟩
       have T4 := T3.kept k4
       clear T3 HQ k4)
    | (go_at_call 62
       (with_reducible refine (HWr.out _ _ _ T4 (by have := HZ.out; have := HZ2.out; simp; omega)).mono ?_)
       rintro e v5 ⟨rfl, T5⟩
       obtain ⟨b0, b1, b2, b3⟩ := (c4.kept T5.k).cs
       clear T4))
  have T9 : St W1 (x.head ++ x.items 0) v5 := by
    have : x.head ++ x.items 0 = [] ++ numL nk ++ numL q := by rw [HHD.out]; simp [Nd.items]
    rw [this]; exact T5
  go_loopg [24] nk (fun gg v wx => ∃ i : Nat, v = .int .i64 (i : Nat) ∧ Hid (gg = nk - i) ∧ i ≤ nk ∧ Hid (St W1 (x.head ++ x.items i) wx))
  case atStart => exact ⟨0, rfl, rfl, Nat.zero_le _, T9⟩
  case round =>
    obtain ⟨i, rfl, hg, hin, T⟩ := hrel
    by_cases h1 : i < nk
    · have h1' : (i : Int) < (nk : Int) := by omega
      obtain ⟨b0, b1, b2, b3⟩ := (c4.kept T.out.k).cs
      have HI : Hid (∀ W, Kept W1 W → Calls Tryz.prog 64 #[.agg #[.bool false, .slice kp1 nk kc1, .slice vp1 nv1 vc1, .slice (some ⟨ib, io, none⟩) (nk + 1) ic1], .int .i64 (i : Nat)] W fun e w' => e = .returned (.string (bs (x.item i))) ∧ Kept W w') := fun W hW => item_walk (V1.kept hW) G.out i h1
      have hlen : (x.head ++ x.items i).length + (x.item i).length ≤ 100000 := by
        have p1 := HIT.out i hin
        have p2 := HIL.out i h1
        have p3 := HHL.out
        rw [List.length_append]
        omega
      have HLen : Hid ((x.head ++ x.items i).length + (x.item i).length ≤ 100000) := hlen
      clear hlen
      go_wp2_with (first
        | (go_at_call 64
           (with_reducible refine (HI.out _ T.out.k).mono ?_)
           rintro e v5 ⟨rfl, k5⟩
           have T5 := T.out.kept k5)
        | (go_at_call 62
           (with_reducible refine (HWr.out _ _ _ T5 HLen.out).mono ?_)
           rintro e v6 ⟨rfl, T6⟩))
      go_roundg (nk - (i + 1))
      case measure => rw [hg.out]; omega
      case rel => exact ⟨i + 1, by go_num, rfl, by omega, by rw [Nd.items, ← List.append_assoc]; exact T6⟩
    · obtain rfl : i = nk := by omega
      have h1' : ¬ ((i : Int) < (i : Int)) := by omega
      go_wp2_with (first
        | (go_at_call 65
           (with_reducible refine (HTx.out _ _ T.out).mono ?_)
           rintro e v7 ⟨rfl, k7⟩))
      go_ret
      refine ⟨?_, K2.trans k7⟩
      unfold Nd.put
      rw [HKL.out]
      rfl

theorem put_walk {w : World} {l : Bool} {kp : Option Addr} {nk kc : Nat} {vp : Option Addr} {nv vc : Nat} {ip : Option Addr} {ni ic : Nat} {x : Nd} (h : NV w l kp nk kc vp nv vc ip ni ic x) (g : Good x) :
    Calls Tryz.prog 37 #[.agg #[.bool l, .slice kp nk kc, .slice vp nv vc, .slice ip ni ic]] w fun e w' => e = .returned (.string (bs x.put)) ∧ Kept w w' := by
  cases l with
  | true => exact put_true h g
  | false => exact put_false h g
end Go.Proofs.YtncfpjccfmolgaaGreatDoor.N

namespace Go.Proofs.YtncfpjccfmolgaaGreatDoor.N
open Go.ChangeShapes Go.WideShapes Go.ChangeAt Go.RowKit

theorem vcl_more {vs : List Vl} {i : Nat} {v : Vl} (h : vs[i]? = some v) : vcl (vs.take (i + 1)) = vcl (vs.take i) ++ [.string v.d, .int .i64 v.p, .int .i64 v.l] := by
  rw [List.take_add_one, h, vcl_append]
  simp [vcl, Vl.cells]
theorem three_cells (w : World) (a b c : Value) (t : TypeId) : ∀ (j : Nat) (v : Value), [a, b, c][j]? = some v → (w.alloc (.cells #[a, b, c] t)).drew.cell? ((⟨w.heap.size, 0, none⟩ : Addr).add j) = some v := by
  intro j v hj
  rw [Addr.add_lit, Nat.zero_add]
  show (w.alloc (.cells #[a, b, c] t)).cell? ⟨w.heap.size, j, none⟩ = some v
  rw [World.cell?_alloc_at _ _ _ _ rfl]
  simpa using hj

end Go.Proofs.YtncfpjccfmolgaaGreatDoor.N

namespace Go.Proofs.YtncfpjccfmolgaaGreatDoor.N
open Go.ChangeShapes Go.WideShapes Go.ChangeAt Go.RowKit

def Nd.sz (x : Nd) (i : Nat) : Nat := (x.item i).length
def Nd.tot (x : Nd) (i : Nat) : Nat := (x.items i).length
theorem Nd.tot_zero (x : Nd) : x.tot 0 = 0 := rfl
theorem Nd.tot_succ (x : Nd) (i : Nat) : x.tot (i + 1) = x.tot i + x.sz i := by
  unfold Nd.tot Nd.sz
  rw [Nd.items, List.length_append]
theorem Nd.tot_mono (x : Nd) {i j : Nat} (h : i ≤ j) : x.tot i ≤ x.tot j := by
  induction j with
  | zero => obtain rfl : i = 0 := by omega
            exact Nat.le_refl _
  | succ j ih =>
    by_cases e : i = j + 1
    · subst e; exact Nat.le_refl _
    · have := ih (by omega)
      rw [Nd.tot_succ]
      omega

/-- How many bytes the greater one of the parts takes. -/
def Nd.gr (x : Nd) (i : Nat) : Nat := max (x.tot i) (x.tot x.ks.length - x.tot (if x.leaf = true then i else i + 1))
theorem Nd.gr_leaf {x : Nd} (h : x.leaf = true) (i : Nat) : x.gr i = max (x.tot i) (x.tot x.ks.length - x.tot i) := by
  unfold Nd.gr; rw [if_pos h]
theorem Nd.gr_inner {x : Nd} (h : x.leaf = false) (i : Nat) : x.gr i = max (x.tot i) (x.tot x.ks.length - x.tot (i + 1)) := by
  unfold Nd.gr; rw [if_neg (by rw [h]; decide)]
/-- The first place from a on at which the greater part is least. -/
structure Mid (x : Nd) (a m : Nat) : Prop where
  lo : a ≤ m
  lt : m < x.ks.length
  before : ∀ j, a ≤ j → j < m → x.gr m < x.gr j
  after : ∀ j, m ≤ j → j < x.ks.length → x.gr m ≤ x.gr j

end Go.Proofs.YtncfpjccfmolgaaGreatDoor.N

namespace Go.Proofs.YtncfpjccfmolgaaGreatDoor.N
open Go.ChangeShapes Go.WideShapes Go.ChangeAt Go.RowKit

theorem put_len {x : Nd} : x.put.length = x.head.length + x.tot x.ks.length := by
  unfold Nd.put Nd.tot
  rw [List.length_append]
theorem great_few {x : Nd} (g : Good x) (h : 237 < x.put.length) : 3 ≤ x.ks.length := by
  rw [put_len] at h
  have a := head_length g
  have b := items_length g x.ks.length (Nat.le_refl _)
  unfold Nd.tot at h
  omega

end Go.Proofs.YtncfpjccfmolgaaGreatDoor.N

namespace Go.Proofs.YtncfpjccfmolgaaGreatDoor.N
open Go.ChangeShapes Go.WideShapes Go.ChangeAt Go.RowKit

theorem Rw.take {w : World} {sz : Nat} {p : Option Addr} {n c : Nat} {cs : List Value} (h : Rw w sz p n c cs) (k : Nat) (hk : k ≤ n) : Rw w sz p k c (cs.take (k * sz)) := by
  refine ⟨?_, Nat.le_trans hk h.le, h.cap, ?_⟩
  · rw [List.length_take, h.len]
    exact Nat.min_eq_left (Nat.mul_le_mul_right _ hk)
  · rcases h.out with ⟨e1, e2⟩ | ⟨b, o, e1, e2⟩
    · exact .inl ⟨e1, by omega⟩
    · refine .inr ⟨b, o, e1, fun j u hu => e2 j u ?_⟩
      rw [List.getElem?_take] at hu
      split at hu
      · exact hu
      · cases hu
/-- A node in memory; a list of it that is nil has no room. -/
structure NZ (w : World) (l : Bool) (kp : Option Addr) (nk kc : Nat) (vp : Option Addr) (nv vc : Nat) (ip : Option Addr) (ni ic : Nat) (x : Nd) : Prop where
  nv : NV w l kp nk kc vp nv vc ip ni ic x
  kz : kp = none → kc = 0
  vz : vp = none → vc = 0
  iz : ip = none → ic = 0
theorem NZ.kept {w w' : World} {l : Bool} {kp : Option Addr} {nk kc : Nat} {vp : Option Addr} {nv vc : Nat} {ip : Option Addr} {ni ic : Nat} {x : Nd} (h : NZ w l kp nk kc vp nv vc ip ni ic x) (k : Kept w w') : NZ w' l kp nk kc vp nv vc ip ni ic x := ⟨h.nv.kept k, h.kz, h.vz, h.iz⟩
def Nd.fst (x : Nd) (m : Nat) : Nd := if x.leaf = true then ⟨true, x.ks.take m, x.vs.take m, []⟩ else ⟨false, x.ks.take m, [], x.is.take (m + 1)⟩
set_option maxHeartbeats 1000000 in
set_option maxRecDepth 100000 in
theorem part_small {w : World} {l : Bool} {kp : Option Addr} {nk kc : Nat} {vp : Option Addr} {nv vc : Nat} {ip : Option Addr} {ni ic : Nat} {x : Nd} (h : NV w l kp nk kc vp nv vc ip ni ic x) (g : Good x) (hs : x.put.length ≤ 237) :
    Calls Tryz.prog 121 #[.agg #[.bool l, .slice kp nk kc, .slice vp nv vc, .slice ip ni ic]] w fun e w' => ∃ (g : Nat) (kp' : Option Addr) (kc' : Nat) (vp' : Option Addr) (nv' vc' : Nat) (ip' : Option Addr) (ni' ic' : Nat), e = .returned (.tuple #[.slice (some ⟨g, 0, none⟩) 1 1, .string ⟨#[]⟩]) ∧ C4 w' g 52 (.bool l) (.slice kp' nk kc') (.slice vp' nv' vc') (.slice ip' ni' ic') ∧ NV w' l kp' nk kc' vp' nv' vc' ip' ni' ic' x ∧ Kept w w' := by
  have HW : Hid (∀ W, Kept w W → Calls Tryz.prog 61 #[.agg #[.bool l, .slice kp nk kc, .slice vp nv vc, .slice ip ni ic]] W fun e w' => ∃ kp' kc' vp' nv' vc' ip' ni' ic', e = .returned (.agg #[.bool l, .slice kp' nk kc', .slice vp' nv' vc', .slice ip' ni' ic']) ∧ Own w' W.heap.size 9 1 kp' nk kc' (kcl x.ks) ∧ Own w' W.heap.size 33 3 vp' nv' vc' (vcl x.vs) ∧ Own w' W.heap.size 3 1 ip' ni' ic' (icl x.is) ∧ Kept W w') := fun W hW => whole_walk (h.kept hW) g
  have HLF : Hid (x.leaf = l) := h.hl
  have HP : Hid (∀ (W : World) (kp : Option Addr) (nk kc : Nat) (vp : Option Addr) (nv vc : Nat) (ip : Option Addr) (ni ic : Nat), NV W l kp nk kc vp nv vc ip ni ic x → Calls Tryz.prog 37 #[.agg #[.bool l, .slice kp nk kc, .slice vp nv vc, .slice ip ni ic]] W fun e w' => e = .returned (.string (bs x.put)) ∧ Kept W w') := fun W kp nk kc vp nv vc ip ni ic h => put_walk h g
  have K0 : Kept w (w.alloc (.cells #[.bool l, .slice kp nk kc, .slice vp nv vc, .slice ip ni ic] 52)) := (Kept.refl w).alloc _
  have X0 := C4.alloc w 52 (.bool l) (.slice kp nk kc) (.slice vp nv vc) (.slice ip ni ic)
  have S0 := size_alloc w (.cells #[.bool l, .slice kp nk kc, .slice vp nv vc, .slice ip ni ic] 52)
  have hz := bs_size x.put
  rw [← hz] at hs
  generalize bs x.put = s at *
  have hs2 : (s.size : Int) ≤ 237 := by omega
  clear h g hz
  go_enter Tryz.func121, Tryz.ntmps121
  go_wp2_with (first
    | (go_at_call 61
       (with_reducible refine (HW.out _ K0).mono ?_)
       rintro e v1 ⟨kp1, kc1, vp1, nv1, vc1, ip1, ni1, ic1, rfl, O1, O2, O3, k1⟩
       have X1 := X0.kept k1
       have K1 := K0.trans k1
       rw [S0] at O1 O2 O3
       obtain ⟨⟨g0, f0⟩, ⟨g1, f1⟩, ⟨g2, f2⟩, ⟨g3, f3⟩, hfin⟩ := ready4 X1.out (.bool l) (.slice kp1 nk kc1) (.slice vp1 nv1 vc1) (.slice ip1 ni1 ic1)
       have V1 : NV _ l kp1 nk kc1 vp1 nv1 vc1 ip1 ni1 ic1 x := (NV.of HLF.out (O1.st4 (Nat.lt_succ_self _) (.bool l) (.slice kp1 nk kc1) (.slice vp1 nv1 vc1) (.slice ip1 ni1 ic1)) (O2.st4 (Nat.lt_succ_self _) _ _ _ _) (O3.st4 (Nat.lt_succ_self _) _ _ _ _))
       have K2 := K1.st4 (Nat.le_refl _) (.bool l) (.slice kp1 nk kc1) (.slice vp1 nv1 vc1) (.slice ip1 ni1 ic1)
       have c4 : C4 _ w.heap.size 52 (.bool l) (.slice kp1 nk kc1) (.slice vp1 nv1 vc1) (.slice ip1 ni1 ic1) := ⟨hfin⟩
       obtain ⟨y0, y1, y2, y3⟩ := c4.cs
       clear HW X0 K0 S0 O1 O2 O3 k1 X1 K1 hfin)
    | (go_at_call 37
       (with_reducible refine (HP.out _ _ _ _ _ _ _ _ _ _ V1).mono ?_)
       rintro e v2 ⟨rfl, k2⟩
       have K3 := K2.trans k2
       have V2 := V1.kept k2
       obtain ⟨a0, a1, a2, a3⟩ := (c4.kept k2).cs
       clear HP K2 c4 V1 g0 f0 g1 f1 g2 f2 g3 f3 y0 y1 y2 y3 k2))
  go_ret2
  exact ⟨_, _, _, _, _, _, _, _, _, rfl, C4.alloc v2 52 _ _ _ _, V2.kept ((Kept.refl v2).alloc _), K3.trans ((Kept.refl v2).alloc _)⟩

end Go.Proofs.YtncfpjccfmolgaaGreatDoor.N

namespace Go.Proofs.YtncfpjccfmolgaaGreatDoor.N
open Go.ChangeShapes Go.WideShapes Go.ChangeAt Go.RowKit

theorem num_pos (n : Nat) : 1 ≤ (numL n).length := by
  have := numL_ne n
  cases h : numL n with
  | nil => exact absurd h this
  | cons a b => simp
theorem sz_pos (x : Nd) (i : Nat) : 1 ≤ x.sz i := by
  unfold Nd.sz Nd.item keyN
  have := num_pos (x.ks[i]?.getD ⟨#[]⟩).size
  rw [List.length_append, List.length_append]
  omega
theorem sz_inner {x : Nd} (g : Good x) (h : x.leaf = false) {i : Nat} (hi : i < x.ks.length) : x.sz i ≤ 68 := by
  unfold Nd.sz Nd.item
  rw [if_neg (by rw [h]; decide), List.length_append]
  obtain ⟨k, hk⟩ : ∃ k, x.ks[i]? = some k := ⟨_, List.getElem?_eq_getElem hi⟩
  obtain ⟨v, hv⟩ : ∃ v, x.is[i + 1]? = some v := ⟨_, List.getElem?_eq_getElem (by have := (g.li h).1; omega)⟩
  obtain ⟨q, rfl, hq⟩ := g.ik v (List.mem_of_getElem? hv)
  rw [hk, hv]
  have a := keyN_length k (g.small k (List.mem_of_getElem? hk))
  have b := num_small q (by omega)
  simp only [Option.getD_some, Int.toNat_natCast]
  omega

theorem gr_one {x : Nd} (g : Good x) (h : 237 < x.put.length) : x.gr 1 < x.gr 0 := by
  have hn := great_few g h
  rw [put_len] at h
  have hh := head_length g
  have t1 : x.tot 1 = x.sz 0 := by rw [Nd.tot_succ, Nd.tot_zero, Nat.zero_add]
  have t2 : x.tot 2 = x.sz 0 + x.sz 1 := by rw [Nd.tot_succ, t1]
  have m2 := x.tot_mono (show 2 ≤ x.ks.length by omega)
  have p0 := sz_pos x 0
  have p1 := sz_pos x 1
  cases hl : x.leaf with
  | true =>
    rw [Nd.gr_leaf hl, Nd.gr_leaf hl, t1, Nd.tot_zero]
    omega
  | false =>
    have q0 := sz_inner g hl (show 0 < x.ks.length by omega)
    rw [Nd.gr_inner hl, Nd.gr_inner hl, t1, t2, Nd.tot_zero]
    omega

/-- The program's place is the document's. -/
theorem Mid.up {x : Nd} {m : Nat} (g : Good x) (h : 237 < x.put.length) (hm : Mid x 0 m) : Mid x 1 m := by
  have hn := great_few g h
  have h1 := gr_one g h
  have h0 : m ≠ 0 := by
    rintro rfl
    have := hm.after 1 (by omega) (by omega)
    omega
  exact ⟨by omega, hm.lt, fun j _ h => hm.before j (Nat.zero_le _) h, hm.after⟩

end Go.Proofs.YtncfpjccfmolgaaGreatDoor.N

namespace Go.Proofs.YtncfpjccfmolgaaGreatDoor.N
open Go.ChangeShapes Go.WideShapes Go.ChangeAt Go.RowKit

def ksum (ks : List ByteArray) : Nat := (ks.map fun k => (keyN k).length).sum
def vsum (vs : List Vl) : Nat := (vs.map fun v => (valN v).length).sum
def isum (is : List Int) : Nat := (is.map fun i => (numL i.toNat).length).sum

theorem ksum_app (a b : List ByteArray) : ksum (a ++ b) = ksum a + ksum b := by unfold ksum; rw [List.map_append, List.sum_append_nat]
theorem vsum_app (a b : List Vl) : vsum (a ++ b) = vsum a + vsum b := by unfold vsum; rw [List.map_append, List.sum_append_nat]
theorem isum_app (a b : List Int) : isum (a ++ b) = isum a + isum b := by unfold isum; rw [List.map_append, List.sum_append_nat]
theorem ksum_one (a : ByteArray) : ksum [a] = (keyN a).length := by simp [ksum]
theorem vsum_one (a : Vl) : vsum [a] = (valN a).length := by simp [vsum]
theorem isum_one (a : Int) : isum [a] = (numL a.toNat).length := by simp [isum]

theorem tot_leaf {x : Nd} (hl : x.leaf = true) (hv : x.vs.length = x.ks.length) : ∀ i, i ≤ x.ks.length → x.tot i = ksum (x.ks.take i) + vsum (x.vs.take i) := by
  intro i
  induction i with
  | zero => intro _; rfl
  | succ i ih =>
    intro hi
    have h1 : x.ks[i]? = some x.ks[i] := List.getElem?_eq_getElem (by omega)
    have h2 : x.vs[i]? = some (x.vs[i]'(by omega)) := List.getElem?_eq_getElem (by omega)
    rw [Nd.tot_succ, ih (by omega), List.take_add_one, List.take_add_one, h1, h2, Option.toList_some, Option.toList_some, ksum_app, vsum_app, ksum_one, vsum_one]
    unfold Nd.sz Nd.item
    rw [if_pos hl, h1, h2, List.length_append, Option.getD_some, Option.getD_some]
    omega
theorem tot_inner {x : Nd} (hl : x.leaf = false) (hv : x.is.length = x.ks.length + 1) : ∀ i, i ≤ x.ks.length → x.tot i = ksum (x.ks.take i) + isum ((x.is.drop 1).take i) := by
  intro i
  induction i with
  | zero => intro _; rfl
  | succ i ih =>
    intro hi
    have h1 : x.ks[i]? = some x.ks[i] := List.getElem?_eq_getElem (by omega)
    have h2 : x.is[i + 1]? = some (x.is[i + 1]'(by omega)) := List.getElem?_eq_getElem (by omega)
    have h3 : (x.is.drop 1)[i]? = some (x.is[i + 1]'(by omega)) := by rw [List.getElem?_drop, Nat.add_comm 1 i, h2]
    rw [Nd.tot_succ, ih (by omega), List.take_add_one, List.take_add_one, h1, h3, Option.toList_some, Option.toList_some, ksum_app, isum_app, ksum_one, isum_one]
    unfold Nd.sz Nd.item
    rw [if_neg (by rw [hl]; decide), h1, h2, List.length_append, Option.getD_some, Option.getD_some]
    omega

end Go.Proofs.YtncfpjccfmolgaaGreatDoor.N

namespace Go.Proofs.YtncfpjccfmolgaaGreatDoor.B
open Go.Proofs.YtncfpjccfmolgaaGreatDoor.N

/-- A mark: a key that has something, or a key between (nothing). -/
abbrev Mk := ByteArray × Option Vl
abbrev En := ByteArray × Vl
abbrev Pm := Nat → Option Nd

/-- How marks stand one behind the other. -/
def R (a b : Mk) : Prop := if a.2.isNone = true ∧ b.2.isSome = true then sl b.1 a.1 = false else sl a.1 b.1 = true

def leafm (x : Nd) : List Mk := (x.ks.zip x.vs).map fun p => (p.1, some p.2)
def post (f : Nat → List Mk) (K : List ByteArray) (C : List Int) : List Mk := (K.zip C).flatMap fun p => (p.1, none) :: f p.2.toNat
def pre (f : Nat → List Mk) (C : List Int) (K : List ByteArray) : List Mk := (C.zip K).flatMap fun p => f p.1.toNat ++ [(p.2, none)]
def inmL (f : Nat → List Mk) (S : List Int) (K : List ByteArray) : List Mk := match S with
  | [] => []
  | c :: r => f c.toNat ++ post f K r
def inm (f : Nat → List Mk) (x : Nd) : List Mk := inmL f x.is x.ks

/-- What a node, that has nodes to a depth below it, says in order. -/
def fmN (M : Pm) : Nat → Nd → List Mk
  | 0, x => leafm x
  | d + 1, x => inm (fun n => match M n with | some y => fmN M d y | none => []) x
def fm (M : Pm) (d n : Nat) : List Mk := match M n with | some y => fmN M d y | none => []
theorem fmN_leaf (M : Pm) (x : Nd) : fmN M 0 x = leafm x := rfl
theorem fmN_inner (M : Pm) (d : Nat) (x : Nd) : fmN M (d + 1) x = inm (fm M d) x := rfl
theorem fm_some {M : Pm} {n : Nat} {y : Nd} (h : M n = some y) (d : Nat) : fm M d n = fmN M d y := by unfold fm; rw [h]

/-- The pages below a node. -/
def pgN (M : Pm) : Nat → Nd → List Nat
  | 0, _ => []
  | d + 1, x => x.is.flatMap fun c => c.toNat :: (match M c.toNat with | some y => pgN M d y | none => [])
def pg (M : Pm) (d n : Nat) : List Nat := n :: (match M n with | some y => pgN M d y | none => [])
theorem pgN_inner (M : Pm) (d : Nat) (x : Nd) : pgN M (d + 1) x = x.is.flatMap fun c => pg M d c.toNat := rfl
theorem pg_some {M : Pm} {n : Nat} {y : Nd} (h : M n = some y) (d : Nat) : pg M d n = n :: pgN M d y := by unfold pg; rw [h]

/-- A node as it may be while it is not in a page: all below it is as it must be. -/
def WfN (M : Pm) : Nat → Nd → Prop
  | 0, x => x.leaf = true ∧ N.Good x
  | d + 1, x => x.leaf = false ∧ N.Good x ∧ ∀ c ∈ x.is, ∃ y, M c.toNat = some y ∧ y.ks ≠ [] ∧ y.put.length ≤ 237 ∧ WfN M d y
def Wf (M : Pm) (d n : Nat) : Prop := ∃ y, M n = some y ∧ y.ks ≠ [] ∧ y.put.length ≤ 237 ∧ WfN M d y
theorem WfN_inner (M : Pm) (d : Nat) (x : Nd) : WfN M (d + 1) x = (x.leaf = false ∧ N.Good x ∧ ∀ c ∈ x.is, Wf M d c.toNat) := rfl
theorem WfN.good {M : Pm} {d : Nat} {x : Nd} (h : WfN M d x) : N.Good x := by
  cases d with
  | zero => exact h.2
  | succ d => exact h.2.1
theorem WfN.leaf {M : Pm} {d : Nat} {x : Nd} (h : WfN M d x) : x.leaf = decide (d = 0) := by
  cases d with
  | zero => exact h.1
  | succ d => rw [h.1]; simp

theorem flat_congr {α β : Type} {f g : α → List β} : ∀ {l : List α}, (∀ a ∈ l, f a = g a) → l.flatMap f = l.flatMap g
  | [], _ => rfl
  | a :: l, h => by rw [List.flatMap_cons, List.flatMap_cons, h a List.mem_cons_self, flat_congr fun b hb => h b (List.mem_cons_of_mem _ hb)]

/-- Where a map of pages stays, all below stays. -/
theorem pgN_same {M M' : Pm} : ∀ (d : Nat) (x : Nd), (∀ q ∈ pgN M d x, M' q = M q) → pgN M' d x = pgN M d x ∧ fmN M' d x = fmN M d x ∧ (WfN M d x → WfN M' d x)
  | 0, x, _ => ⟨rfl, rfl, id⟩
  | d + 1, x, h => by
    have sub : ∀ c ∈ x.is, pg M' d c.toNat = pg M d c.toNat ∧ fm M' d c.toNat = fm M d c.toNat ∧ (Wf M d c.toNat → Wf M' d c.toNat) := by
      intro c hc
      have hin : ∀ q ∈ pg M d c.toNat, M' q = M q := fun q hq => h q (by rw [pgN_inner]; exact List.mem_flatMap.2 ⟨c, hc, hq⟩)
      have h0 : M' c.toNat = M c.toNat := hin _ (by unfold pg; exact List.mem_cons_self)
      cases hm : M c.toNat with
      | none =>
        rw [hm] at h0
        refine ⟨?_, ?_, ?_⟩
        · unfold pg; rw [hm, h0]
        · unfold fm; rw [hm, h0]
        · rintro ⟨y, hy, _⟩; rw [hm] at hy; cases hy
      | some y =>
        rw [hm] at h0
        obtain ⟨e1, e2, e3⟩ := pgN_same d y (fun q hq => hin q (by rw [pg_some hm]; exact List.mem_cons_of_mem _ hq))
        refine ⟨by rw [pg_some hm, pg_some h0, e1], by rw [fm_some hm, fm_some h0, e2], ?_⟩
        rintro ⟨y', hy, a, b, c⟩
        rw [hm] at hy
        obtain rfl := Option.some.inj hy
        exact ⟨y, h0, a, b, e3 c⟩
    refine ⟨?_, ?_, ?_⟩
    · rw [pgN_inner, pgN_inner]
      exact flat_congr fun c hc => (sub c hc).1
    · rw [fmN_inner, fmN_inner]
      unfold inm inmL
      cases hi : x.is with
      | nil => rfl
      | cons c r =>
        rw [hi] at sub
        show fm M' d c.toNat ++ post (fm M' d) x.ks r = fm M d c.toNat ++ post (fm M d) x.ks r
        rw [(sub c List.mem_cons_self).2.1]
        congr 1
        unfold post
        refine flat_congr fun p hp => ?_
        rw [(sub p.2 (List.mem_cons_of_mem _ (List.of_mem_zip hp).2)).2.1]
    · rw [WfN_inner, WfN_inner]
      rintro ⟨a, b, c⟩
      exact ⟨a, b, fun q hq => (sub q hq).2.2 (c q hq)⟩

theorem pre_append (f : Nat → List Mk) (L L' : List Int) (K K' : List ByteArray) (h : L.length = K.length) : pre f (L ++ L') (K ++ K') = pre f L K ++ pre f L' K' := by
  unfold pre; rw [List.zip_append h, List.flatMap_append]
theorem post_append (f : Nat → List Mk) (L L' : List Int) (K K' : List ByteArray) (h : K.length = L.length) : post f (K ++ K') (L ++ L') = post f K L ++ post f K' L' := by
  unfold post; rw [List.zip_append h, List.flatMap_append]
theorem pre_one (f : Nat → List Mk) (c : Int) (k : ByteArray) : pre f [c] [k] = f c.toNat ++ [(k, none)] := by simp [pre]
theorem pre_nil (f : Nat → List Mk) : pre f [] [] = [] := rfl
/-- A row of kids with keys between: what stands ahead of a piece of it, and what behind. -/
theorem inmL_seg (f : Nat → List Mk) : ∀ (L : List Int) (KL : List ByteArray) (S : List Int) (SK : List ByteArray) (Rr : List Int) (KR : List ByteArray), KL.length = L.length → SK.length + 1 = S.length →
    inmL f (L ++ S ++ Rr) (KL ++ SK ++ KR) = pre f L KL ++ inmL f S SK ++ post f KR Rr
  | [], [], c :: r, SK, Rr, KR, _, h2 => by
    simp only [List.length_cons, Nat.add_right_cancel_iff] at h2
    simp [inmL, pre, post_append f r Rr SK KR h2]
  | [], [], [], SK, _, _, _, h2 => by simp at h2
  | [], _ :: _, _, _, _, _, h, _ => by simp at h
  | _ :: _, [], _, _, _, _, h, _ => by simp at h
  | l :: L, k :: KL, S, SK, Rr, KR, h, h2 => by
    have ih := inmL_seg f L KL S SK Rr KR (by simpa using h) h2
    have e1 : inmL f (l :: L ++ S ++ Rr) (k :: KL ++ SK ++ KR) = f l.toNat ++ (k, none) :: inmL f (L ++ S ++ Rr) (KL ++ SK ++ KR) := by
      have hne : L ++ S ++ Rr ≠ [] := by
        intro e
        have := congrArg List.length e
        simp only [List.length_append, List.length_nil] at this
        omega
      cases hl : L ++ S ++ Rr with
      | nil => exact absurd hl hne
      | cons a r => rw [List.cons_append, List.cons_append, hl]; simp [inmL, post]
    have e2 : pre f (l :: L) (k :: KL) = f l.toNat ++ (k, none) :: pre f L KL := by simp [pre]
    rw [e1, ih, e2]
    simp
theorem inmL_one (f : Nat → List Mk) (c : Int) : inmL f [c] [] = f c.toNat := by simp [inmL, post]
/-- Two rows, with a key between them. -/
theorem inmL_join (f : Nat → List Mk) (A B : List Int) (KA KB : List ByteArray) (k : ByteArray) (ha : KA.length + 1 = A.length) (hb : KB.length + 1 = B.length) : inmL f (A ++ B) (KA ++ ([k] ++ KB)) = inmL f A KA ++ (k, none) :: inmL f B KB := by
  obtain ⟨b, r, rfl⟩ : ∃ b r, B = b :: r := by cases B with | nil => simp at hb | cons b r => exact ⟨b, r, rfl⟩
  have h := inmL_seg f [] [] A KA (b :: r) ([k] ++ KB) rfl ha
  simp only [List.nil_append, pre_nil] at h
  rw [h]
  simp [post, inmL]

/-- The entries alone. -/
def con (l : List Mk) : List En := l.filterMap fun m => m.2.map fun v => (m.1, v)
theorem con_append (a b : List Mk) : con (a ++ b) = con a ++ con b := by simp [con]
theorem con_leaf (x : Nd) : con (leafm x) = x.ks.zip x.vs := by
  unfold con leafm
  rw [List.filterMap_map]
  have : ((fun m : Mk => m.2.map fun v => (m.1, v)) ∘ fun p : En => ((p.1, some p.2) : Mk)) = some := by funext p; rfl
  rw [this, List.filterMap_some]
theorem mem_con {l : List Mk} {e : En} (h : e ∈ con l) : (e.1, some e.2) ∈ l := by
  unfold con at h
  obtain ⟨m, hm, he⟩ := List.mem_filterMap.1 h
  obtain ⟨k, o⟩ := m
  cases o with
  | none => cases he
  | some v => simp at he; subst he; exact hm
end Go.Proofs.YtncfpjccfmolgaaGreatDoor.B
