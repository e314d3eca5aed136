/- Joined: NNL NNM NNN NNO NNP NNS NNT NPA NPC NPD NPF NFP BA BB BC BD BE BF BG BH NNU. What is proved of the functions beneath StoreNone. Conditions: those that each row names. -/
import Derived.Test.YtifeihnhkbagpaaGreatDoorZay
import Derived.Test.YtifeihnhkbagpaaGreatDoorZaz
namespace Go.Proofs.YtifeihnhkbagpaaGreatDoor.N
open Go.ChangeShapes Go.WideShapes Go.ChangeAt Go.RowKit

structure Nd where
  leaf : Bool
  ks : List ByteArray
  vs : List Vl
  is : List Int

def Nd.item (x : Nd) (i : Nat) : List Nat := keyN (x.ks[i]?.getD ⟨#[]⟩) ++ (if x.leaf = true then valN (x.vs[i]?.getD ⟨⟨#[]⟩, -1, 0⟩) else numL (x.is[i + 1]?.getD 0).toNat)
def Nd.items (x : Nd) : Nat → List Nat
  | 0 => []
  | i + 1 => x.items i ++ x.item i
def Nd.head (x : Nd) : List Nat := numL x.ks.length ++ (if x.leaf = true then [] else numL (x.is[0]?.getD 0).toNat)
def Nd.put (x : Nd) : List Nat := x.head ++ x.items x.ks.length

structure Good (x : Nd) : Prop where
  few : x.ks.length ≤ 120
  small : ∀ k ∈ x.ks, k.size ≤ 64
  lv : x.leaf = true → x.vs.length = x.ks.length ∧ x.is = []
  li : x.leaf = false → x.is.length = x.ks.length + 1 ∧ x.vs = []
  ok : ∀ v ∈ x.vs, Okv v
  ik : ∀ i ∈ x.is, ∃ q : Nat, i = (q : Int) ∧ q ≤ 16383

structure Rx (w : World) (e : TypeId) (p : Option Addr) (c : Nat) : Prop where
  typ : ∀ b off ph, p = some ⟨b, off, ph⟩ → ∃ cs fr, w.heap[b]? = some (.cells cs e fr)
  nil : p = none → c = 0
def Nw (B : Nat) (p : Option Addr) : Prop := ∀ b off ph, p = some ⟨b, off, ph⟩ → B ≤ b
theorem Own.nw {w : World} {B : Nat} {e : TypeId} {sz : Nat} {p : Option Addr} {n c : Nat} {cs : List Value} (h : Own w B e sz p n c cs) : Nw B p := by
  intro b off ph e1
  rcases h.cases with ⟨e2, _⟩ | ⟨g, cur, e2, hB, _⟩
  · rw [e2] at e1; cases e1
  · rw [e2] at e1; injection e1 with e1; injection e1 with e1; subst e1; exact hB
theorem Nw.mono {B B' : Nat} {p : Option Addr} (h : Nw B p) (k : B' ≤ B) : Nw B' p := fun b off ph e => Nat.le_trans k (h b off ph e)
theorem Rx.none (w : World) (e : TypeId) : Rx w e none 0 := ⟨(fun _ _ _ h => by cases h), fun _ => rfl⟩
theorem Rx.kept {w w' : World} {e : TypeId} {p : Option Addr} {c : Nat} (h : Rx w e p c) (k : Kept w w') : Rx w' e p c :=
  ⟨(fun b off ph hp => by obtain ⟨cs, fr, hb⟩ := h.typ b off ph hp; exact ⟨cs, fr, (k.out.block b (Array.getElem?_eq_some_iff.1 hb).1).trans hb⟩), h.nil⟩
theorem Own.rx {w : World} {B : Nat} {e : TypeId} {sz : Nat} {p : Option Addr} {n c : Nat} {cs : List Value} (k : Own w B e sz p n c cs) : Rx w e p c := by
  rcases k.cases with ⟨rfl, _, rfl, _⟩ | ⟨g, cur, rfl, _, _, hg, _⟩
  · exact Rx.none w e
  · refine ⟨fun b off ph hp => ?_, fun h => by cases h⟩
    injection hp with hp
    injection hp with hp _ _
    subst hp
    exact ⟨cur, _, hg⟩

structure NV (w : World) (l : Bool) (kp : Option Addr) (nk kc : Nat) (vp : Option Addr) (nv vc : Nat) (ip : Option Addr) (ni ic : Nat) (x : Nd) : Prop where
  hl : x.leaf = l
  k : Rw w 1 kp nk kc (kcl x.ks)
  v : Rw w 3 vp nv vc (vcl x.vs)
  i : Rw w 1 ip ni ic (icl x.is)
  kx : Rx w 9 kp kc
  vx : Rx w 77 vp vc
  ix : Rx w 3 ip ic

theorem NV.of {w : World} {l : Bool} {kp : Option Addr} {nk kc : Nat} {vp : Option Addr} {nv vc : Nat} {ip : Option Addr} {ni ic : Nat} {x : Nd} {B1 B2 B3 : Nat} (hl : x.leaf = l) (k : Own w B1 9 1 kp nk kc (kcl x.ks)) (v : Own w B2 77 3 vp nv vc (vcl x.vs)) (i : Own w B3 3 1 ip ni ic (icl x.is)) : NV w l kp nk kc vp nv vc ip ni ic x :=
  ⟨hl, k.rw, v.rw, i.rw, k.rx, v.rx, i.rx⟩

theorem NV.kept {w w' : World} {l : Bool} {kp : Option Addr} {nk kc : Nat} {vp : Option Addr} {nv vc : Nat} {ip : Option Addr} {ni ic : Nat} {x : Nd} (h : NV w l kp nk kc vp nv vc ip ni ic x) (k : Kept w w') : NV w' l kp nk kc vp nv vc ip ni ic x := ⟨h.hl, k.rw h.k, k.rw h.v, k.rw h.i, h.kx.kept k, h.vx.kept k, h.ix.kept k⟩
theorem NV.nk {w : World} {l : Bool} {kp : Option Addr} {nk kc : Nat} {vp : Option Addr} {nv vc : Nat} {ip : Option Addr} {ni ic : Nat} {x : Nd} (h : NV w l kp nk kc vp nv vc ip ni ic x) : x.ks.length = nk := by
  have := h.k.len; rwa [kcl_length, Nat.mul_one] at this
theorem NV.nv {w : World} {l : Bool} {kp : Option Addr} {nk kc : Nat} {vp : Option Addr} {nv vc : Nat} {ip : Option Addr} {ni ic : Nat} {x : Nd} (h : NV w l kp nk kc vp nv vc ip ni ic x) : x.vs.length = nv := by
  have := h.v.len; rw [vcl_length] at this; omega
theorem NV.ni {w : World} {l : Bool} {kp : Option Addr} {nk kc : Nat} {vp : Option Addr} {nv vc : Nat} {ip : Option Addr} {ni ic : Nat} {x : Nd} (h : NV w l kp nk kc vp nv vc ip ni ic x) : x.is.length = ni := by
  have := h.i.len; rwa [icl_length, Nat.mul_one] at this

theorem Rw.some {w : World} {sz : Nat} {p : Option Addr} {n c : Nat} {cs : List Value} (h : Rw w sz p n c cs) (hn : 0 < n) : ∃ b off, p = some ⟨b, off, none⟩ ∧ ∀ j u, cs[j]? = some u → w.cell? ⟨b, off + j, none⟩ = some u :=
  h.out.resolve_left (fun q => by omega)

theorem item_walk {w : World} {l : Bool} {kp : Option Addr} {nk kc : Nat} {vp : Option Addr} {nv vc : Nat} {ip : Option Addr} {ni ic : Nat} {x : Nd} (h : NV w l kp nk kc vp nv vc ip ni ic x) (g : Good x) (i : Nat) (hi : i < nk) :
    Calls Tryz.prog 216 #[.agg #[.bool l, .slice kp nk kc, .slice vp nv vc, .slice ip ni ic], .int .i64 (i : Nat)] w fun e w' => e = .returned (.string (bs (x.item i))) ∧ Kept w w' := by
  have hnk := h.nk
  have hnv := h.nv
  have hni := h.ni
  obtain ⟨k, hk⟩ : ∃ k, x.ks[i]? = some k := ⟨_, List.getElem?_eq_getElem (by omega)⟩
  obtain ⟨kb, ko, rfl, hkc⟩ := h.k.some (by omega)
  have c0 := hkc i _ (kcl_at hk)
  have hks := g.small k (List.mem_of_getElem? hk)
  cases l with
  | true =>
    have hv2 := (g.lv h.hl).1
    obtain ⟨v, hv⟩ : ∃ v, x.vs[i]? = some v := ⟨_, List.getElem?_eq_getElem (by omega)⟩
    obtain ⟨vb, vo, rfl, hvc⟩ := h.v.some (by omega)
    obtain ⟨a0, a1, a2⟩ := vcl_at hv
    have b0 := hvc _ _ a0
    have b1 := hvc _ _ a1
    have b2 := hvc _ _ a2
    rw [← Nat.add_assoc] at b1 b2
    have e1 : x.item i = keyN k ++ valN v := by unfold Nd.item; rw [hk, hv, if_pos h.hl]; rfl
    rw [e1]
    obtain ⟨d, p, ln⟩ := v
    rcases g.ok _ (List.mem_of_getElem? hv) with ⟨h1, h2, h3⟩ | ⟨h1, p', l', h2, h3, h4, h5, h6⟩
    · simp only at h1 h2 h3
      subst h1; subst h2
      have e2 : valN ⟨d, -1, 0⟩ = numL 0 ++ (numL d.size ++ un d) := by unfold valN; rw [if_pos (by show (-1 : Int) < 0; decide)]
      rw [e2]
      exact item_here hi (by omega) c0 b0 b1 b2 hks h3
    · simp only at h1 h2 h4
      subst h2; subst h4
      have e2 : valN ⟨d, (p' : Int), (l' : Int)⟩ = numL 1 ++ (numL p' ++ numL l') := by unfold valN; rw [if_neg (by show ¬ (p' : Int) < 0; omega)]; rfl
      rw [e2]
      exact item_apart hi (by omega) c0 b0 b1 b2 hks (by omega) (by omega)
  | false =>
    have hv2 := (g.li h.hl).1
    obtain ⟨v, hv⟩ : ∃ v, x.is[i + 1]? = some v := ⟨_, List.getElem?_eq_getElem (by omega)⟩
    obtain ⟨ib, io, rfl, hvc⟩ := h.i.some (by omega)
    have b0 := hvc _ _ (icl_at hv)
    obtain ⟨q, rfl, hq⟩ := g.ik v (List.mem_of_getElem? hv)
    have e1 : x.item i = keyN k ++ numL q := by unfold Nd.item; rw [hk, hv, if_neg (by rw [h.hl]; decide)]; rfl
    rw [e1]
    exact item_inner hi (by omega) (by have := g.few; omega) c0 b0 hks (by omega)

structure St (W1 : World) (L : List Nat) (W : World) : Prop where
  b : Lib.IsBuilderF 213 5 W1.heap.size W1.heap.size (Lib.byteCells (L.map UInt8.ofNat)) W
  k : Kept W1 W
  len : L.length ≤ 100000

theorem St.start (W1 : World) : St W1 [] (W1.alloc (.cells #[.pointer none, .slice none 0 0] 213)) :=
  ⟨.inl ⟨Nat.le_refl _, .slice none 0 0, heap_alloc_new W1 _, World.ownsRowF_nil _ _ _ _, by simp [Value.ownBlock]⟩, (Kept.refl W1).alloc _, Nat.zero_le _⟩
theorem St.kept {W1 W W' : World} {L : List Nat} (h : St W1 L W) (k : Kept W W') : St W1 L W' := by
  have key : ∀ p, Lib.BuilderAtF 213 5 W1.heap.size W1.heap.size p (Lib.byteCells (L.map UInt8.ofNat)) W → Lib.BuilderAtF 213 5 W1.heap.size W1.heap.size p (Lib.byteCells (L.map UInt8.ofNat)) W' := by
    rintro p ⟨h1, v, h2, h3, h4⟩
    exact ⟨h1, v, k.block h2, h3.kept (k.grown none) (by cases v.ownBlock <;> simp), h4⟩
  exact ⟨h.b.elim (fun x => .inl (key _ x)) (fun x => .inr (key _ x)), h.k.trans k, h.len⟩
theorem St.write {W1 W : World} {L : List Nat} (h : St W1 L W) (M : List Nat) (hm : L.length + M.length ≤ 100000) :
    Calls Tryz.prog 135 #[.pointer (some ⟨W1.heap.size, 0, none⟩), .string (bs M)] W fun e w' => e = .returned (.tuple #[.int .i64 ((bs M).size : Nat), .nilIface]) ∧ St W1 (L ++ M) w' := by
  refine (Tryz.Builder_WriteString_k _ _ _ (bs M) W h.b (by rw [Lib.byteCells_length, List.length_map, bs_size]; omega) h.k.size).mono ?_
  rintro e w' ⟨rfl, h1, h2, h3⟩
  refine ⟨rfl, ⟨?_, ⟨h.k.out.trans h2⟩, by rw [List.length_append]; exact hm⟩⟩
  rw [List.map_append, Lib.byteCells_append]
  exact Or.inr h1
theorem St.text {W1 W : World} {L : List Nat} (h : St W1 L W) :
    Calls Tryz.prog 136 #[.pointer (some ⟨W1.heap.size, 0, none⟩)] W fun e w' => e = .returned (.string (bs L)) ∧ Kept W1 w' := by
  refine (Tryz.Builder_String_any_k _ _ (L.map UInt8.ofNat) W h.b h.k.size).mono ?_
  rintro e w' ⟨rfl, _, h2, _⟩
  exact ⟨rfl, ⟨h.k.out.trans h2⟩⟩

theorem item_length {x : Nd} (g : Good x) (i : Nat) (hi : i < x.ks.length) : (x.item i).length ≤ 115 := by
  obtain ⟨k, hk⟩ : ∃ k, x.ks[i]? = some k := ⟨_, List.getElem?_eq_getElem hi⟩
  have a := keyN_length k (g.small k (List.mem_of_getElem? hk))
  unfold Nd.item
  rw [hk, List.length_append]
  cases hl : x.leaf with
  | true =>
    have hv2 := (g.lv hl).1
    obtain ⟨v, hv⟩ : ∃ v, x.vs[i]? = some v := ⟨_, List.getElem?_eq_getElem (by omega)⟩
    have b := valN_length v (g.ok _ (List.mem_of_getElem? hv))
    rw [if_pos rfl, hv]
    show (keyN k).length + (valN v).length ≤ 115
    omega
  | false =>
    have hv2 := (g.li hl).1
    obtain ⟨v, hv⟩ : ∃ v, x.is[i + 1]? = some v := ⟨_, List.getElem?_eq_getElem (by omega)⟩
    obtain ⟨q, rfl, hq⟩ := g.ik v (List.mem_of_getElem? hv)
    have b := num_small q (by omega)
    rw [if_neg (by decide), hv]
    show (keyN k).length + (numL q).length ≤ 115
    omega
theorem items_length {x : Nd} (g : Good x) : ∀ i, i ≤ x.ks.length → (x.items i).length ≤ i * 115
  | 0, _ => by simp [Nd.items]
  | i + 1, h => by
    have a := items_length g i (by omega)
    have b := item_length g i (by omega)
    rw [Nd.items, List.length_append]
    omega
theorem head_length {x : Nd} (g : Good x) : x.head.length ≤ 6 := by
  have a := num_small x.ks.length (by have := g.few; omega)
  unfold Nd.head
  rw [List.length_append]
  split
  · simp; omega
  · rename_i hl
    have hv2 := (g.li (by simpa using hl)).1
    obtain ⟨v, hv⟩ : ∃ v, x.is[0]? = some v := ⟨_, List.getElem?_eq_getElem (by omega)⟩
    obtain ⟨q, rfl, hq⟩ := g.ik v (List.mem_of_getElem? hv)
    have b := num_small q (by omega)
    rw [hv]
    show (numL x.ks.length).length + (numL q).length ≤ 6
    omega

theorem whole_walk {w : World} {l : Bool} {kp : Option Addr} {nk kc : Nat} {vp : Option Addr} {nv vc : Nat} {ip : Option Addr} {ni ic : Nat} {x : Nd} (h : NV w l kp nk kc vp nv vc ip ni ic x) (g : Good x) :
    Calls Tryz.prog 144 #[.agg #[.bool l, .slice kp nk kc, .slice vp nv vc, .slice ip ni ic]] w fun e w' => ∃ kp' kc' vp' nv' vc' ip' ni' ic', e = .returned (.agg #[.bool l, .slice kp' nk kc', .slice vp' nv' vc', .slice ip' ni' ic']) ∧ Own w' w.heap.size 9 1 kp' nk kc' (kcl x.ks) ∧ Own w' w.heap.size 77 3 vp' nv' vc' (vcl x.vs) ∧ Own w' w.heap.size 3 1 ip' ni' ic' (icl x.is) ∧ Kept w w' := by
  have hnk := h.nk
  have hnv := h.nv
  have hni := h.ni
  have hf := g.few
  cases l with
  | true =>
    obtain ⟨e1, e2⟩ := g.lv h.hl
    obtain rfl : nv = nk := by omega
    refine (whole_leaf h.k h.v (kcl_one _) (vcl_one _) (by omega)).mono ?_
    rintro e w' ⟨kp', kc', vp', rfl, o1, o2, k⟩
    refine ⟨_, _, _, _, _, _, _, _, rfl, o1, o2, ?_, k⟩
    rw [e2]
    exact ⟨World.ownsRow_nil _ _ _ _⟩
  | false =>
    obtain ⟨e1, e2⟩ := g.li h.hl
    obtain rfl : ni = nk + 1 := by omega
    refine (whole_inner h.k h.i (kcl_one _) (icl_one _) (by omega)).mono ?_
    rintro e w' ⟨kp', kc', vp', rfl, o1, o2, k⟩
    refine ⟨_, _, _, _, _, _, _, _, rfl, o1, ?_, o2, k⟩
    rw [e2]
    exact ⟨World.ownsRow_nil _ _ _ _⟩

set_option maxHeartbeats 1000000 in
set_option maxRecDepth 100000 in
theorem put_true {w : World} {kp : Option Addr} {nk kc : Nat} {vp : Option Addr} {nv vc : Nat} {ip : Option Addr} {ni ic : Nat} {x : Nd} (h : NV w true kp nk kc vp nv vc ip ni ic x) (g : Good x) :
    Calls Tryz.prog 180 #[.agg #[.bool true, .slice kp nk kc, .slice vp nv vc, .slice ip ni ic]] w fun e w' => e = .returned (.string (bs x.put)) ∧ Kept w w' := by
  have HW : Hid (∀ W, Kept w W → Calls Tryz.prog 144 #[.agg #[.bool true, .slice kp nk kc, .slice vp nv vc, .slice ip ni ic]] W fun e w' => ∃ kp' kc' vp' nv' vc' ip' ni' ic', e = .returned (.agg #[.bool true, .slice kp' nk kc', .slice vp' nv' vc', .slice ip' ni' ic']) ∧ Own w' W.heap.size 9 1 kp' nk kc' (kcl x.ks) ∧ Own w' W.heap.size 77 3 vp' nv' vc' (vcl x.vs) ∧ Own w' W.heap.size 3 1 ip' ni' ic' (icl x.is) ∧ Kept W w') := fun W hW => whole_walk (h.kept hW) g
  have hf : nk ≤ 120 := by have := g.few; have := h.nk; omega
  have G : Hid (Good x) := g
  have HKL : Hid (x.ks.length = nk) := h.nk
  have HLF : Hid (x.leaf = true) := h.hl
  have HN : Hid (∀ W, Calls Tryz.prog 215 #[.int .i64 (nk : Nat)] W fun e w' => e = .returned (.string (bs (numL nk))) ∧ Kept W w') := fun W => number_walk nk (by omega) W
  have HHD : Hid (x.head = [] ++ numL nk) := by show _ = _; unfold Nd.head; rw [if_pos h.hl, h.nk]; simp
  have K0 : Kept w (w.alloc (.cells #[.bool true, .slice kp nk kc, .slice vp nv vc, .slice ip ni ic] 121)) := (Kept.refl w).alloc _
  have X0 := C4.alloc w 121 (.bool true) (.slice kp nk kc) (.slice vp nv vc) (.slice ip ni ic)
  have S0 := size_alloc w (.cells #[.bool true, .slice kp nk kc, .slice vp nv vc, .slice ip ni ic] 121)
  have HZ : Hid ((numL nk).length ≤ 3) := num_small nk (by omega)
  have HIT : Hid (∀ i, i ≤ nk → (x.items i).length ≤ i * 115) := fun i hi => items_length g i (by have := h.nk; omega)
  have HIL : Hid (∀ i, i < nk → (x.item i).length ≤ 115) := fun i hi => item_length g i (by have := h.nk; omega)
  have HHL : Hid (x.head.length ≤ 6) := head_length g
  clear h g
  go_enter Tryz.func180, Tryz.ntmps180
  go_wp2_with (first
    | (go_at_call 144
       (with_reducible refine (HW.out _ K0).mono ?_)
       rintro e v1 ⟨kp1, kc1, vp1, nv1, vc1, ip1, ni1, ic1, rfl, O1, O2, O3, k1⟩
       have X1 := X0.kept k1
       have K1 := K0.trans k1
       rw [S0] at O1 O2 O3
       obtain ⟨⟨g0, f0⟩, ⟨g1, f1⟩, ⟨g2, f2⟩, ⟨g3, f3⟩, hfin⟩ := ready4 X1.out (.bool true) (.slice kp1 nk kc1) (.slice vp1 nv1 vc1) (.slice ip1 ni1 ic1)
       obtain ⟨W1, hW1, V1, K2, hsz, c4⟩ : ∃ W1, Hid (W1 = ((((v1.setCell ⟨w.heap.size, 0, none⟩ (.bool true)).setCell ⟨w.heap.size, 1, none⟩ (.slice kp1 nk kc1)).setCell ⟨w.heap.size, 2, none⟩ (.slice vp1 nv1 vc1)).setCell ⟨w.heap.size, 3, none⟩ (.slice ip1 ni1 ic1))) ∧ NV W1 true kp1 nk kc1 vp1 nv1 vc1 ip1 ni1 ic1 x ∧ Kept w W1 ∧ Hid (W1.heap.size = v1.heap.size) ∧ C4 W1 w.heap.size 121 (.bool true) (.slice kp1 nk kc1) (.slice vp1 nv1 vc1) (.slice ip1 ni1 ic1) := ⟨_, rfl, (NV.of HLF.out (O1.st4 (Nat.lt_succ_self _) _ _ _ _) (O2.st4 (Nat.lt_succ_self _) _ _ _ _) (O3.st4 (Nat.lt_succ_self _) _ _ _ _)), K1.st4 (Nat.le_refl _) _ _ _ _, (by show _ = _; rw [size_set, size_set, size_set, size_set]), ⟨hfin⟩⟩
       have HWr : Hid (∀ W L M, St W1 L W → L.length + M.length ≤ 100000 → Calls Tryz.prog 135 #[.pointer (some ⟨v1.heap.size, 0, none⟩), .string (bs M)] W fun e w' => e = .returned (.tuple #[.int .i64 ((bs M).size : Nat), .nilIface]) ∧ St W1 (L ++ M) w') := (fun W L M hS hM => by rw [← hsz.out]; exact hS.write M hM)
       have HTx : Hid (∀ W L, St W1 L W → Calls Tryz.prog 136 #[.pointer (some ⟨v1.heap.size, 0, none⟩)] W fun e w' => e = .returned (.string (bs L)) ∧ Kept W1 w') := (fun W L hS => by rw [← hsz.out]; exact hS.text)
       have T1 : St W1 [] (((((v1.setCell ⟨w.heap.size, 0, none⟩ (.bool true)).setCell ⟨w.heap.size, 1, none⟩ (.slice kp1 nk kc1)).setCell ⟨w.heap.size, 2, none⟩ (.slice vp1 nv1 vc1)).setCell ⟨w.heap.size, 3, none⟩ (.slice ip1 ni1 ic1)).alloc (.cells #[.pointer none, .slice none 0 0] 213)) := (by rw [← hW1.out]; exact St.start W1)
       have q1 := (c4.kept T1.k).cs.2.1
       clear HW X0 K0 S0 O1 O2 O3 k1 X1 K1 hfin)
    | (go_at_call 215
       (with_reducible refine (HN.out _).mono ?_)
       rintro e v2 ⟨rfl, k2⟩
       have T2 := T1.kept k2
       clear T1 HN k2 g0 f0 g1 f1 g2 f2 g3 f3)
    | (go_at_call 135
       (with_reducible refine (HWr.out _ _ _ T2 (by have := HZ.out; simp; omega)).mono ?_)
       rintro e v3 ⟨rfl, T3⟩
       obtain ⟨a0, a1, a2, a3⟩ := (c4.kept T3.k).cs
       clear T2
       skip))
  have T9 : St W1 (x.head ++ x.items 0) v3 := by
    have : x.head ++ x.items 0 = [] ++ numL nk := by rw [HHD.out]; simp [Nd.items]
    rw [this]; exact T3
  go_loopg [24] nk (fun gg v wx => ∃ i : Nat, v = .int .i64 (i : Nat) ∧ Hid (gg = nk - i) ∧ i ≤ nk ∧ Hid (St W1 (x.head ++ x.items i) wx))
  case atStart => exact ⟨0, rfl, rfl, Nat.zero_le _, T9⟩
  case round =>
    obtain ⟨i, rfl, hg, hin, T⟩ := hrel
    by_cases h1 : i < nk
    · have h1' : (i : Int) < (nk : Int) := by omega
      obtain ⟨b0, b1, b2, b3⟩ := (c4.kept T.out.k).cs
      have HI : Hid (∀ W, Kept W1 W → Calls Tryz.prog 216 #[.agg #[.bool true, .slice kp1 nk kc1, .slice vp1 nv1 vc1, .slice ip1 ni1 ic1], .int .i64 (i : Nat)] W fun e w' => e = .returned (.string (bs (x.item i))) ∧ Kept W w') := fun W hW => item_walk (V1.kept hW) G.out i h1
      have hlen : (x.head ++ x.items i).length + (x.item i).length ≤ 100000 := by
        have p1 := HIT.out i hin
        have p2 := HIL.out i h1
        have p3 := HHL.out
        rw [List.length_append]
        omega
      have HLen : Hid ((x.head ++ x.items i).length + (x.item i).length ≤ 100000) := hlen
      clear hlen
      go_wp2_with (first
        | (go_at_call 216
           (with_reducible refine (HI.out _ T.out.k).mono ?_)
           rintro e v5 ⟨rfl, k5⟩
           have T5 := T.out.kept k5)
        | (go_at_call 135
           (with_reducible refine (HWr.out _ _ _ T5 HLen.out).mono ?_)
           rintro e v6 ⟨rfl, T6⟩))
      go_roundg (nk - (i + 1))
      case measure => rw [hg.out]; omega
      case rel => exact ⟨i + 1, by go_num, rfl, by omega, by rw [Nd.items, ← List.append_assoc]; exact T6⟩
    · obtain rfl : i = nk := by omega
      have h1' : ¬ ((i : Int) < (i : Int)) := by omega
      go_wp2_with (first
        | (go_at_call 136
           (with_reducible refine (HTx.out _ _ T.out).mono ?_)
           rintro e v7 ⟨rfl, k7⟩))
      go_ret
      refine ⟨?_, K2.trans k7⟩
      unfold Nd.put
      rw [HKL.out]
      rfl

set_option maxHeartbeats 1000000 in
set_option maxRecDepth 100000 in
theorem put_false {w : World} {kp : Option Addr} {nk kc : Nat} {vp : Option Addr} {nv vc : Nat} {ip : Option Addr} {ni ic : Nat} {x : Nd} (h : NV w false kp nk kc vp nv vc ip ni ic x) (g : Good x) :
    Calls Tryz.prog 180 #[.agg #[.bool false, .slice kp nk kc, .slice vp nv vc, .slice ip ni ic]] w fun e w' => e = .returned (.string (bs x.put)) ∧ Kept w w' := by
  have HW : Hid (∀ W, Kept w W → Calls Tryz.prog 144 #[.agg #[.bool false, .slice kp nk kc, .slice vp nv vc, .slice ip ni ic]] W fun e w' => ∃ kp' kc' vp' nv' vc' ip' ni' ic', e = .returned (.agg #[.bool false, .slice kp' nk kc', .slice vp' nv' vc', .slice ip' ni' ic']) ∧ Own w' W.heap.size 9 1 kp' nk kc' (kcl x.ks) ∧ Own w' W.heap.size 77 3 vp' nv' vc' (vcl x.vs) ∧ Own w' W.heap.size 3 1 ip' ni' ic' (icl x.is) ∧ Kept W w') := fun W hW => whole_walk (h.kept hW) g
  have hf : nk ≤ 120 := by have := g.few; have := h.nk; omega
  have G : Hid (Good x) := g
  have HKL : Hid (x.ks.length = nk) := h.nk
  have HLF : Hid (x.leaf = false) := h.hl
  have HN : Hid (∀ W, Calls Tryz.prog 215 #[.int .i64 (nk : Nat)] W fun e w' => e = .returned (.string (bs (numL nk))) ∧ Kept W w') := fun W => number_walk nk (by omega) W
  obtain ⟨q, hq0, hqs⟩ : ∃ q : Nat, x.is[0]? = some (q : Int) ∧ q ≤ 16383 := by
    have hv2 := (g.li h.hl).1
    obtain ⟨v, hv⟩ : ∃ v, x.is[0]? = some v := ⟨_, List.getElem?_eq_getElem (by omega)⟩
    obtain ⟨q, rfl, hq⟩ := g.ik v (List.mem_of_getElem? hv)
    exact ⟨q, hv, hq⟩
  have HQ0 : Hid (x.is[0]? = some (q : Int)) := hq0
  have HHD : Hid (x.head = [] ++ numL nk ++ numL q) := by show _ = _; unfold Nd.head; rw [if_neg (by rw [h.hl]; decide), h.nk, hq0]; simp
  have HQ : Hid (∀ W, Calls Tryz.prog 215 #[.int .i64 (q : Nat)] W fun e w' => e = .returned (.string (bs (numL q))) ∧ Kept W w') := fun W => number_walk q (by omega) W
  have HZ2 : Hid ((numL q).length ≤ 3) := num_small q (by omega)
  have HIL2 : Hid (x.is.length = nk + 1) := by show _ = _; have := (g.li h.hl).1; have := h.nk; omega
  clear hq0
  have K0 : Kept w (w.alloc (.cells #[.bool false, .slice kp nk kc, .slice vp nv vc, .slice ip ni ic] 121)) := (Kept.refl w).alloc _
  have X0 := C4.alloc w 121 (.bool false) (.slice kp nk kc) (.slice vp nv vc) (.slice ip ni ic)
  have S0 := size_alloc w (.cells #[.bool false, .slice kp nk kc, .slice vp nv vc, .slice ip ni ic] 121)
  have HZ : Hid ((numL nk).length ≤ 3) := num_small nk (by omega)
  have HIT : Hid (∀ i, i ≤ nk → (x.items i).length ≤ i * 115) := fun i hi => items_length g i (by have := h.nk; omega)
  have HIL : Hid (∀ i, i < nk → (x.item i).length ≤ 115) := fun i hi => item_length g i (by have := h.nk; omega)
  have HHL : Hid (x.head.length ≤ 6) := head_length g
  clear h g
  go_enter Tryz.func180, Tryz.ntmps180
  go_wp2_with (first
    | (go_at_call 144
       (with_reducible refine (HW.out _ K0).mono ?_)
       rintro e v1 ⟨kp1, kc1, vp1, nv1, vc1, ip1, ni1, ic1, rfl, O1, O2, O3, k1⟩
       have X1 := X0.kept k1
       have K1 := K0.trans k1
       rw [S0] at O1 O2 O3
       obtain ⟨⟨g0, f0⟩, ⟨g1, f1⟩, ⟨g2, f2⟩, ⟨g3, f3⟩, hfin⟩ := ready4 X1.out (.bool false) (.slice kp1 nk kc1) (.slice vp1 nv1 vc1) (.slice ip1 ni1 ic1)
       obtain ⟨W1, hW1, V1, K2, hsz, c4⟩ : ∃ W1, Hid (W1 = ((((v1.setCell ⟨w.heap.size, 0, none⟩ (.bool false)).setCell ⟨w.heap.size, 1, none⟩ (.slice kp1 nk kc1)).setCell ⟨w.heap.size, 2, none⟩ (.slice vp1 nv1 vc1)).setCell ⟨w.heap.size, 3, none⟩ (.slice ip1 ni1 ic1))) ∧ NV W1 false kp1 nk kc1 vp1 nv1 vc1 ip1 ni1 ic1 x ∧ Kept w W1 ∧ Hid (W1.heap.size = v1.heap.size) ∧ C4 W1 w.heap.size 121 (.bool false) (.slice kp1 nk kc1) (.slice vp1 nv1 vc1) (.slice ip1 ni1 ic1) := ⟨_, rfl, (NV.of HLF.out (O1.st4 (Nat.lt_succ_self _) _ _ _ _) (O2.st4 (Nat.lt_succ_self _) _ _ _ _) (O3.st4 (Nat.lt_succ_self _) _ _ _ _)), K1.st4 (Nat.le_refl _) _ _ _ _, (by show _ = _; rw [size_set, size_set, size_set, size_set]), ⟨hfin⟩⟩
       have HWr : Hid (∀ W L M, St W1 L W → L.length + M.length ≤ 100000 → Calls Tryz.prog 135 #[.pointer (some ⟨v1.heap.size, 0, none⟩), .string (bs M)] W fun e w' => e = .returned (.tuple #[.int .i64 ((bs M).size : Nat), .nilIface]) ∧ St W1 (L ++ M) w') := (fun W L M hS hM => by rw [← hsz.out]; exact hS.write M hM)
       have HTx : Hid (∀ W L, St W1 L W → Calls Tryz.prog 136 #[.pointer (some ⟨v1.heap.size, 0, none⟩)] W fun e w' => e = .returned (.string (bs L)) ∧ Kept W1 w') := (fun W L hS => by rw [← hsz.out]; exact hS.text)
       have T1 : St W1 [] (((((v1.setCell ⟨w.heap.size, 0, none⟩ (.bool false)).setCell ⟨w.heap.size, 1, none⟩ (.slice kp1 nk kc1)).setCell ⟨w.heap.size, 2, none⟩ (.slice vp1 nv1 vc1)).setCell ⟨w.heap.size, 3, none⟩ (.slice ip1 ni1 ic1)).alloc (.cells #[.pointer none, .slice none 0 0] 213)) := (by rw [← hW1.out]; exact St.start W1)
       have q1 := (c4.kept T1.k).cs.2.1
       clear HW X0 K0 S0 O1 O2 O3 k1 X1 K1 hfin)
    | (go_at_call 215
       (with_reducible refine (HN.out _).mono ?_)
       rintro e v2 ⟨rfl, k2⟩
       have T2 := T1.kept k2
       clear T1 HN k2 g0 f0 g1 f1 g2 f2 g3 f3)
    | (go_at_call 135
       (with_reducible refine (HWr.out _ _ _ T2 (by have := HZ.out; simp; omega)).mono ?_)
       rintro e v3 ⟨rfl, T3⟩
       obtain ⟨a0, a1, a2, a3⟩ := (c4.kept T3.k).cs
       clear T2
       have hni := V1.ni
       rw [HIL2.out] at hni
       subst hni
       obtain ⟨ib, io, rfl, hic⟩ := V1.i.some (Nat.succ_pos _)
       have hq1 := T3.k.cell (hic 0 _ (icl_at HQ0.out))
       rw [Nat.add_zero] at hq1
       clear hic)
    | (go_at_call 215
       (with_reducible refine (HQ.out _).mono ?_)
       rintro e v4 ⟨rfl, k4⟩
       have T4 := T3.kept k4
       clear T3 HQ k4)
    | (go_at_call 135
       (with_reducible refine (HWr.out _ _ _ T4 (by have := HZ.out; have := HZ2.out; simp; omega)).mono ?_)
       rintro e v5 ⟨rfl, T5⟩
       obtain ⟨b0, b1, b2, b3⟩ := (c4.kept T5.k).cs
       clear T4))
  have T9 : St W1 (x.head ++ x.items 0) v5 := by
    have : x.head ++ x.items 0 = [] ++ numL nk ++ numL q := by rw [HHD.out]; simp [Nd.items]
    rw [this]; exact T5
  go_loopg [24] nk (fun gg v wx => ∃ i : Nat, v = .int .i64 (i : Nat) ∧ Hid (gg = nk - i) ∧ i ≤ nk ∧ Hid (St W1 (x.head ++ x.items i) wx))
  case atStart => exact ⟨0, rfl, rfl, Nat.zero_le _, T9⟩
  case round =>
    obtain ⟨i, rfl, hg, hin, T⟩ := hrel
    by_cases h1 : i < nk
    · have h1' : (i : Int) < (nk : Int) := by omega
      obtain ⟨b0, b1, b2, b3⟩ := (c4.kept T.out.k).cs
      have HI : Hid (∀ W, Kept W1 W → Calls Tryz.prog 216 #[.agg #[.bool false, .slice kp1 nk kc1, .slice vp1 nv1 vc1, .slice (some ⟨ib, io, none⟩) (nk + 1) ic1], .int .i64 (i : Nat)] W fun e w' => e = .returned (.string (bs (x.item i))) ∧ Kept W w') := fun W hW => item_walk (V1.kept hW) G.out i h1
      have hlen : (x.head ++ x.items i).length + (x.item i).length ≤ 100000 := by
        have p1 := HIT.out i hin
        have p2 := HIL.out i h1
        have p3 := HHL.out
        rw [List.length_append]
        omega
      have HLen : Hid ((x.head ++ x.items i).length + (x.item i).length ≤ 100000) := hlen
      clear hlen
      go_wp2_with (first
        | (go_at_call 216
           (with_reducible refine (HI.out _ T.out.k).mono ?_)
           rintro e v5 ⟨rfl, k5⟩
           have T5 := T.out.kept k5)
        | (go_at_call 135
           (with_reducible refine (HWr.out _ _ _ T5 HLen.out).mono ?_)
           rintro e v6 ⟨rfl, T6⟩))
      go_roundg (nk - (i + 1))
      case measure => rw [hg.out]; omega
      case rel => exact ⟨i + 1, by go_num, rfl, by omega, by rw [Nd.items, ← List.append_assoc]; exact T6⟩
    · obtain rfl : i = nk := by omega
      have h1' : ¬ ((i : Int) < (i : Int)) := by omega
      go_wp2_with (first
        | (go_at_call 136
           (with_reducible refine (HTx.out _ _ T.out).mono ?_)
           rintro e v7 ⟨rfl, k7⟩))
      go_ret
      refine ⟨?_, K2.trans k7⟩
      unfold Nd.put
      rw [HKL.out]
      rfl

theorem put_walk {w : World} {l : Bool} {kp : Option Addr} {nk kc : Nat} {vp : Option Addr} {nv vc : Nat} {ip : Option Addr} {ni ic : Nat} {x : Nd} (h : NV w l kp nk kc vp nv vc ip ni ic x) (g : Good x) :
    Calls Tryz.prog 180 #[.agg #[.bool l, .slice kp nk kc, .slice vp nv vc, .slice ip ni ic]] w fun e w' => e = .returned (.string (bs x.put)) ∧ Kept w w' := by
  cases l with
  | true => exact put_true h g
  | false => exact put_false h g

theorem vcl_more {vs : List Vl} {i : Nat} {v : Vl} (h : vs[i]? = some v) : vcl (vs.take (i + 1)) = vcl (vs.take i) ++ [.string v.d, .int .i64 v.p, .int .i64 v.l] := by
  rw [List.take_add_one, h, vcl_append]
  simp [vcl, Vl.cells]
theorem three_cells (w : World) (a b c : Value) (t : TypeId) : ∀ (j : Nat) (v : Value), [a, b, c][j]? = some v → (w.alloc (.cells #[a, b, c] t)).drew.cell? ((⟨w.heap.size, 0, none⟩ : Addr).add j) = some v := by
  intro j v hj
  rw [Addr.add_lit, Nat.zero_add]
  show (w.alloc (.cells #[a, b, c] t)).cell? ⟨w.heap.size, j, none⟩ = some v
  rw [World.cell?_alloc_at _ _ _ _ rfl]
  simpa using hj


def Nd.sz (x : Nd) (i : Nat) : Nat := (x.item i).length
def Nd.tot (x : Nd) (i : Nat) : Nat := (x.items i).length
theorem Nd.tot_zero (x : Nd) : x.tot 0 = 0 := rfl
theorem Nd.tot_succ (x : Nd) (i : Nat) : x.tot (i + 1) = x.tot i + x.sz i := by
  unfold Nd.tot Nd.sz
  rw [Nd.items, List.length_append]
theorem Nd.tot_mono (x : Nd) {i j : Nat} (h : i ≤ j) : x.tot i ≤ x.tot j := by
  induction j with
  | zero => obtain rfl : i = 0 := by omega
            exact Nat.le_refl _
  | succ j ih =>
    by_cases e : i = j + 1
    · subst e; exact Nat.le_refl _
    · have := ih (by omega)
      rw [Nd.tot_succ]
      omega

def Nd.gr (x : Nd) (i : Nat) : Nat := max (x.tot i) (x.tot x.ks.length - x.tot (if x.leaf = true then i else i + 1))
theorem Nd.gr_leaf {x : Nd} (h : x.leaf = true) (i : Nat) : x.gr i = max (x.tot i) (x.tot x.ks.length - x.tot i) := by
  unfold Nd.gr; rw [if_pos h]
theorem Nd.gr_inner {x : Nd} (h : x.leaf = false) (i : Nat) : x.gr i = max (x.tot i) (x.tot x.ks.length - x.tot (i + 1)) := by
  unfold Nd.gr; rw [if_neg (by rw [h]; decide)]
structure Mid (x : Nd) (a m : Nat) : Prop where
  lo : a ≤ m
  lt : m < x.ks.length
  before : ∀ j, a ≤ j → j < m → x.gr m < x.gr j
  after : ∀ j, m ≤ j → j < x.ks.length → x.gr m ≤ x.gr j

theorem Mid.one {x : Nd} {a m m' : Nat} (h : Mid x a m) (h' : Mid x a m') : m = m' := by
  by_cases h1 : m < m'
  · have a1 := h'.before m h.lo h1
    have a2 := h.after m' (by omega) h'.lt
    omega
  · by_cases h2 : m' < m
    · have a1 := h.before m' h'.lo h2
      have a2 := h'.after m (by omega) h.lt
      omega
    · omega

def Lst (x : Nd) (a i m : Nat) (l : Int) (most : Int) : Prop :=
  (i = a ∧ m = 0 ∧ l = most) ∨ (a ≤ m ∧ m < i ∧ l = ((x.gr m : Nat) : Int) ∧ (∀ j, a ≤ j → j < m → x.gr m < x.gr j) ∧ ∀ j, m ≤ j → j < i → x.gr m ≤ x.gr j)
theorem Lst.more {x : Nd} {a i m : Nat} {l most : Int} (h : Lst x a i m l most) (hl : ¬ ((x.gr i : Nat) : Int) < l) (hm : ¬ (l = most ∧ i = a)) : Lst x a (i + 1) m l most := by
  rcases h with ⟨e, _, e2⟩ | ⟨p1, p2, p3, p4, p5⟩
  · exact absurd ⟨e2, e⟩ hm
  · refine .inr ⟨p1, by omega, p3, p4, ?_⟩
    intro j h1 h2
    by_cases e : j = i
    · subst e; omega
    · exact p5 j h1 (by omega)

theorem put_len {x : Nd} : x.put.length = x.head.length + x.tot x.ks.length := by
  unfold Nd.put Nd.tot
  rw [List.length_append]
theorem great_few {x : Nd} (g : Good x) (h : 237 < x.put.length) : 3 ≤ x.ks.length := by
  rw [put_len] at h
  have a := head_length g
  have b := items_length g x.ks.length (Nat.le_refl _)
  unfold Nd.tot at h
  omega

theorem Rw.take {w : World} {sz : Nat} {p : Option Addr} {n c : Nat} {cs : List Value} (h : Rw w sz p n c cs) (k : Nat) (hk : k ≤ n) : Rw w sz p k c (cs.take (k * sz)) := by
  refine ⟨?_, Nat.le_trans hk h.le, h.cap, ?_⟩
  · rw [List.length_take, h.len]
    exact Nat.min_eq_left (Nat.mul_le_mul_right _ hk)
  · rcases h.out with ⟨e1, e2⟩ | ⟨b, o, e1, e2⟩
    · exact .inl ⟨e1, by omega⟩
    · refine .inr ⟨b, o, e1, fun j u hu => e2 j u ?_⟩
      rw [List.getElem?_take] at hu
      split at hu
      · exact hu
      · cases hu
structure NZ (w : World) (l : Bool) (kp : Option Addr) (nk kc : Nat) (vp : Option Addr) (nv vc : Nat) (ip : Option Addr) (ni ic : Nat) (x : Nd) : Prop where
  nv : NV w l kp nk kc vp nv vc ip ni ic x
  kz : kp = none → kc = 0
  vz : vp = none → vc = 0
  iz : ip = none → ic = 0
theorem NZ.kept {w w' : World} {l : Bool} {kp : Option Addr} {nk kc : Nat} {vp : Option Addr} {nv vc : Nat} {ip : Option Addr} {ni ic : Nat} {x : Nd} (h : NZ w l kp nk kc vp nv vc ip ni ic x) (k : Kept w w') : NZ w' l kp nk kc vp nv vc ip ni ic x := ⟨h.nv.kept k, h.kz, h.vz, h.iz⟩
def Nd.fst (x : Nd) (m : Nat) : Nd := if x.leaf = true then ⟨true, x.ks.take m, x.vs.take m, []⟩ else ⟨false, x.ks.take m, [], x.is.take (m + 1)⟩
set_option maxHeartbeats 1000000 in
set_option maxRecDepth 100000 in
theorem part_small {w : World} {l : Bool} {kp : Option Addr} {nk kc : Nat} {vp : Option Addr} {nv vc : Nat} {ip : Option Addr} {ni ic : Nat} {x : Nd} (h : NV w l kp nk kc vp nv vc ip ni ic x) (g : Good x) (hs : x.put.length ≤ 237) :
    Calls Tryz.prog 182 #[.agg #[.bool l, .slice kp nk kc, .slice vp nv vc, .slice ip ni ic]] w fun e w' => ∃ (g : Nat) (kp' : Option Addr) (kc' : Nat) (vp' : Option Addr) (nv' vc' : Nat) (ip' : Option Addr) (ni' ic' : Nat), e = .returned (.tuple #[.slice (some ⟨g, 0, none⟩) 1 1, .string ⟨#[]⟩]) ∧ C4 w' g 121 (.bool l) (.slice kp' nk kc') (.slice vp' nv' vc') (.slice ip' ni' ic') ∧ NV w' l kp' nk kc' vp' nv' vc' ip' ni' ic' x ∧ Kept w w' := by
  have HW : Hid (∀ W, Kept w W → Calls Tryz.prog 144 #[.agg #[.bool l, .slice kp nk kc, .slice vp nv vc, .slice ip ni ic]] W fun e w' => ∃ kp' kc' vp' nv' vc' ip' ni' ic', e = .returned (.agg #[.bool l, .slice kp' nk kc', .slice vp' nv' vc', .slice ip' ni' ic']) ∧ Own w' W.heap.size 9 1 kp' nk kc' (kcl x.ks) ∧ Own w' W.heap.size 77 3 vp' nv' vc' (vcl x.vs) ∧ Own w' W.heap.size 3 1 ip' ni' ic' (icl x.is) ∧ Kept W w') := fun W hW => whole_walk (h.kept hW) g
  have HLF : Hid (x.leaf = l) := h.hl
  have HP : Hid (∀ (W : World) (kp : Option Addr) (nk kc : Nat) (vp : Option Addr) (nv vc : Nat) (ip : Option Addr) (ni ic : Nat), NV W l kp nk kc vp nv vc ip ni ic x → Calls Tryz.prog 180 #[.agg #[.bool l, .slice kp nk kc, .slice vp nv vc, .slice ip ni ic]] W fun e w' => e = .returned (.string (bs x.put)) ∧ Kept W w') := fun W kp nk kc vp nv vc ip ni ic h => put_walk h g
  have K0 : Kept w (w.alloc (.cells #[.bool l, .slice kp nk kc, .slice vp nv vc, .slice ip ni ic] 121)) := (Kept.refl w).alloc _
  have X0 := C4.alloc w 121 (.bool l) (.slice kp nk kc) (.slice vp nv vc) (.slice ip ni ic)
  have S0 := size_alloc w (.cells #[.bool l, .slice kp nk kc, .slice vp nv vc, .slice ip ni ic] 121)
  have hz := bs_size x.put
  rw [← hz] at hs
  generalize bs x.put = s at *
  have hs2 : (s.size : Int) ≤ 237 := by omega
  clear h g hz
  go_enter Tryz.func182, Tryz.ntmps182
  go_wp2_with (first
    | (go_at_call 144
       (with_reducible refine (HW.out _ K0).mono ?_)
       rintro e v1 ⟨kp1, kc1, vp1, nv1, vc1, ip1, ni1, ic1, rfl, O1, O2, O3, k1⟩
       have X1 := X0.kept k1
       have K1 := K0.trans k1
       rw [S0] at O1 O2 O3
       obtain ⟨⟨g0, f0⟩, ⟨g1, f1⟩, ⟨g2, f2⟩, ⟨g3, f3⟩, hfin⟩ := ready4 X1.out (.bool l) (.slice kp1 nk kc1) (.slice vp1 nv1 vc1) (.slice ip1 ni1 ic1)
       have V1 : NV _ l kp1 nk kc1 vp1 nv1 vc1 ip1 ni1 ic1 x := (NV.of HLF.out (O1.st4 (Nat.lt_succ_self _) (.bool l) (.slice kp1 nk kc1) (.slice vp1 nv1 vc1) (.slice ip1 ni1 ic1)) (O2.st4 (Nat.lt_succ_self _) _ _ _ _) (O3.st4 (Nat.lt_succ_self _) _ _ _ _))
       have K2 := K1.st4 (Nat.le_refl _) (.bool l) (.slice kp1 nk kc1) (.slice vp1 nv1 vc1) (.slice ip1 ni1 ic1)
       have c4 : C4 _ w.heap.size 121 (.bool l) (.slice kp1 nk kc1) (.slice vp1 nv1 vc1) (.slice ip1 ni1 ic1) := ⟨hfin⟩
       obtain ⟨y0, y1, y2, y3⟩ := c4.cs
       clear HW X0 K0 S0 O1 O2 O3 k1 X1 K1 hfin)
    | (go_at_call 180
       (with_reducible refine (HP.out _ _ _ _ _ _ _ _ _ _ V1).mono ?_)
       rintro e v2 ⟨rfl, k2⟩
       have K3 := K2.trans k2
       have V2 := V1.kept k2
       obtain ⟨a0, a1, a2, a3⟩ := (c4.kept k2).cs
       clear HP K2 c4 V1 g0 f0 g1 f1 g2 f2 g3 f3 y0 y1 y2 y3 k2))
  go_ret2
  exact ⟨_, _, _, _, _, _, _, _, _, rfl, C4.alloc v2 121 _ _ _ _, V2.kept ((Kept.refl v2).alloc _), K3.trans ((Kept.refl v2).alloc _)⟩


theorem num_pos (n : Nat) : 1 ≤ (numL n).length := by
  have := numL_ne n
  cases h : numL n with
  | nil => exact absurd h this
  | cons a b => simp
theorem sz_pos (x : Nd) (i : Nat) : 1 ≤ x.sz i := by
  unfold Nd.sz Nd.item keyN
  have := num_pos (x.ks[i]?.getD ⟨#[]⟩).size
  rw [List.length_append, List.length_append]
  omega
theorem sz_inner {x : Nd} (g : Good x) (h : x.leaf = false) {i : Nat} (hi : i < x.ks.length) : x.sz i ≤ 68 := by
  unfold Nd.sz Nd.item
  rw [if_neg (by rw [h]; decide), List.length_append]
  obtain ⟨k, hk⟩ : ∃ k, x.ks[i]? = some k := ⟨_, List.getElem?_eq_getElem hi⟩
  obtain ⟨v, hv⟩ : ∃ v, x.is[i + 1]? = some v := ⟨_, List.getElem?_eq_getElem (by have := (g.li h).1; omega)⟩
  obtain ⟨q, rfl, hq⟩ := g.ik v (List.mem_of_getElem? hv)
  rw [hk, hv]
  have a := keyN_length k (g.small k (List.mem_of_getElem? hk))
  have b := num_small q (by omega)
  simp only [Option.getD_some, Int.toNat_natCast]
  omega

theorem gr_one {x : Nd} (g : Good x) (h : 237 < x.put.length) : x.gr 1 < x.gr 0 := by
  have hn := great_few g h
  rw [put_len] at h
  have hh := head_length g
  have t1 : x.tot 1 = x.sz 0 := by rw [Nd.tot_succ, Nd.tot_zero, Nat.zero_add]
  have t2 : x.tot 2 = x.sz 0 + x.sz 1 := by rw [Nd.tot_succ, t1]
  have m2 := x.tot_mono (show 2 ≤ x.ks.length by omega)
  have p0 := sz_pos x 0
  have p1 := sz_pos x 1
  cases hl : x.leaf with
  | true =>
    rw [Nd.gr_leaf hl, Nd.gr_leaf hl, t1, Nd.tot_zero]
    omega
  | false =>
    have q0 := sz_inner g hl (show 0 < x.ks.length by omega)
    rw [Nd.gr_inner hl, Nd.gr_inner hl, t1, t2, Nd.tot_zero]
    omega

theorem Mid.up {x : Nd} {m : Nat} (g : Good x) (h : 237 < x.put.length) (hm : Mid x 0 m) : Mid x 1 m := by
  have hn := great_few g h
  have h1 := gr_one g h
  have h0 : m ≠ 0 := by
    rintro rfl
    have := hm.after 1 (by omega) (by omega)
    omega
  exact ⟨by omega, hm.lt, fun j _ h => hm.before j (Nat.zero_le _) h, hm.after⟩


def ksum (ks : List ByteArray) : Nat := (ks.map fun k => (keyN k).length).sum
def vsum (vs : List Vl) : Nat := (vs.map fun v => (valN v).length).sum
def isum (is : List Int) : Nat := (is.map fun i => (numL i.toNat).length).sum

theorem ksum_app (a b : List ByteArray) : ksum (a ++ b) = ksum a + ksum b := by unfold ksum; rw [List.map_append, List.sum_append_nat]
theorem vsum_app (a b : List Vl) : vsum (a ++ b) = vsum a + vsum b := by unfold vsum; rw [List.map_append, List.sum_append_nat]
theorem isum_app (a b : List Int) : isum (a ++ b) = isum a + isum b := by unfold isum; rw [List.map_append, List.sum_append_nat]
theorem ksum_one (a : ByteArray) : ksum [a] = (keyN a).length := by simp [ksum]
theorem vsum_one (a : Vl) : vsum [a] = (valN a).length := by simp [vsum]
theorem isum_one (a : Int) : isum [a] = (numL a.toNat).length := by simp [isum]

theorem tot_leaf {x : Nd} (hl : x.leaf = true) (hv : x.vs.length = x.ks.length) : ∀ i, i ≤ x.ks.length → x.tot i = ksum (x.ks.take i) + vsum (x.vs.take i) := by
  intro i
  induction i with
  | zero => intro _; rfl
  | succ i ih =>
    intro hi
    have h1 : x.ks[i]? = some x.ks[i] := List.getElem?_eq_getElem (by omega)
    have h2 : x.vs[i]? = some (x.vs[i]'(by omega)) := List.getElem?_eq_getElem (by omega)
    rw [Nd.tot_succ, ih (by omega), List.take_add_one, List.take_add_one, h1, h2, Option.toList_some, Option.toList_some, ksum_app, vsum_app, ksum_one, vsum_one]
    unfold Nd.sz Nd.item
    rw [if_pos hl, h1, h2, List.length_append, Option.getD_some, Option.getD_some]
    omega
theorem tot_inner {x : Nd} (hl : x.leaf = false) (hv : x.is.length = x.ks.length + 1) : ∀ i, i ≤ x.ks.length → x.tot i = ksum (x.ks.take i) + isum ((x.is.drop 1).take i) := by
  intro i
  induction i with
  | zero => intro _; rfl
  | succ i ih =>
    intro hi
    have h1 : x.ks[i]? = some x.ks[i] := List.getElem?_eq_getElem (by omega)
    have h2 : x.is[i + 1]? = some (x.is[i + 1]'(by omega)) := List.getElem?_eq_getElem (by omega)
    have h3 : (x.is.drop 1)[i]? = some (x.is[i + 1]'(by omega)) := by rw [List.getElem?_drop, Nat.add_comm 1 i, h2]
    rw [Nd.tot_succ, ih (by omega), List.take_add_one, List.take_add_one, h1, h3, Option.toList_some, Option.toList_some, ksum_app, isum_app, ksum_one, isum_one]
    unfold Nd.sz Nd.item
    rw [if_neg (by rw [hl]; decide), h1, h2, List.length_append, Option.getD_some, Option.getD_some]
    omega

theorem ksum_ins (ks : List ByteArray) (i : Nat) (k : ByteArray) : ksum (ins ks i k) = ksum ks + (keyN k).length := by
  have e : ksum ks = ksum (ks.take i) + ksum (ks.drop i) := by
    have := congrArg ksum (List.take_append_drop i ks).symm
    rw [this, ksum_app]
  rw [e]
  unfold ins
  rw [ksum_app, ← List.singleton_append, ksum_app, ksum_one]
  omega
theorem vsum_ins (ks : List Vl) (i : Nat) (k : Vl) : vsum (ins ks i k) = vsum ks + (valN k).length := by
  have e : vsum ks = vsum (ks.take i) + vsum (ks.drop i) := by
    have := congrArg vsum (List.take_append_drop i ks).symm
    rw [this, vsum_app]
  rw [e]
  unfold ins
  rw [vsum_app, ← List.singleton_append, vsum_app, vsum_one]
  omega
theorem vsum_set : ∀ (ks : List Vl) (i : Nat) (k : Vl), vsum (ks.set i k) ≤ vsum ks + (valN k).length
  | [], i, k => by simp [vsum]
  | a :: r, 0, k => by simp [vsum]; omega
  | a :: r, i + 1, k => by
    have := vsum_set r i k
    simp [vsum] at this ⊢
    omega
theorem ksum_set (ks : List ByteArray) (k : ByteArray) (h : k.size ≤ 64) : ksum (setK ks k) ≤ ksum ks + 65 := by
  unfold setK
  split
  · omega
  · rw [ksum_ins]
    have := keyN_length k h
    omega
theorem vsum_setV (ks : List ByteArray) (vs : List Vl) (k : ByteArray) (v : Vl) (h : Okv v) : vsum (setV ks vs k v) ≤ vsum vs + 50 := by
  have := valN_length v h
  unfold setV
  split
  · have := vsum_set vs (fnd k ks) v
    omega
  · rw [vsum_ins]
    omega

end Go.Proofs.YtifeihnhkbagpaaGreatDoor.N
namespace Go.Proofs.YtifeihnhkbagpaaGreatDoor.B
open Go.Proofs.YtifeihnhkbagpaaGreatDoor.N

abbrev Mk := ByteArray × Option Vl
abbrev En := ByteArray × Vl
abbrev Pm := Nat → Option Nd

def R (a b : Mk) : Prop := if a.2.isNone = true ∧ b.2.isSome = true then sl b.1 a.1 = false else sl a.1 b.1 = true

def leafm (x : Nd) : List Mk := (x.ks.zip x.vs).map fun p => (p.1, some p.2)
def post (f : Nat → List Mk) (K : List ByteArray) (C : List Int) : List Mk := (K.zip C).flatMap fun p => (p.1, none) :: f p.2.toNat
def pre (f : Nat → List Mk) (C : List Int) (K : List ByteArray) : List Mk := (C.zip K).flatMap fun p => f p.1.toNat ++ [(p.2, none)]
def inmL (f : Nat → List Mk) (S : List Int) (K : List ByteArray) : List Mk := match S with
  | [] => []
  | c :: r => f c.toNat ++ post f K r
def inm (f : Nat → List Mk) (x : Nd) : List Mk := inmL f x.is x.ks

def fmN (M : Pm) : Nat → Nd → List Mk
  | 0, x => leafm x
  | d + 1, x => inm (fun n => match M n with | some y => fmN M d y | none => []) x
def fm (M : Pm) (d n : Nat) : List Mk := match M n with | some y => fmN M d y | none => []
theorem fmN_leaf (M : Pm) (x : Nd) : fmN M 0 x = leafm x := rfl
theorem fmN_inner (M : Pm) (d : Nat) (x : Nd) : fmN M (d + 1) x = inm (fm M d) x := rfl
theorem fm_some {M : Pm} {n : Nat} {y : Nd} (h : M n = some y) (d : Nat) : fm M d n = fmN M d y := by unfold fm; rw [h]

def pgN (M : Pm) : Nat → Nd → List Nat
  | 0, _ => []
  | d + 1, x => x.is.flatMap fun c => c.toNat :: (match M c.toNat with | some y => pgN M d y | none => [])
def pg (M : Pm) (d n : Nat) : List Nat := n :: (match M n with | some y => pgN M d y | none => [])
theorem pgN_inner (M : Pm) (d : Nat) (x : Nd) : pgN M (d + 1) x = x.is.flatMap fun c => pg M d c.toNat := rfl
theorem pg_some {M : Pm} {n : Nat} {y : Nd} (h : M n = some y) (d : Nat) : pg M d n = n :: pgN M d y := by unfold pg; rw [h]

def WfN (M : Pm) : Nat → Nd → Prop
  | 0, x => x.leaf = true ∧ N.Good x
  | d + 1, x => x.leaf = false ∧ N.Good x ∧ ∀ c ∈ x.is, ∃ y, M c.toNat = some y ∧ y.ks ≠ [] ∧ y.put.length ≤ 237 ∧ WfN M d y
def Wf (M : Pm) (d n : Nat) : Prop := ∃ y, M n = some y ∧ y.ks ≠ [] ∧ y.put.length ≤ 237 ∧ WfN M d y
theorem WfN.good {M : Pm} {d : Nat} {x : Nd} (h : WfN M d x) : N.Good x := by
  cases d with
  | zero => exact h.2
  | succ d => exact h.2.1
theorem WfN.leaf {M : Pm} {d : Nat} {x : Nd} (h : WfN M d x) : x.leaf = decide (d = 0) := by
  cases d with
  | zero => exact h.1
  | succ d => rw [h.1]; simp

theorem pre_append (f : Nat → List Mk) (L L' : List Int) (K K' : List ByteArray) (h : L.length = K.length) : pre f (L ++ L') (K ++ K') = pre f L K ++ pre f L' K' := by
  unfold pre; rw [List.zip_append h, List.flatMap_append]
theorem post_append (f : Nat → List Mk) (L L' : List Int) (K K' : List ByteArray) (h : K.length = L.length) : post f (K ++ K') (L ++ L') = post f K L ++ post f K' L' := by
  unfold post; rw [List.zip_append h, List.flatMap_append]
theorem pre_one (f : Nat → List Mk) (c : Int) (k : ByteArray) : pre f [c] [k] = f c.toNat ++ [(k, none)] := by simp [pre]
theorem inmL_seg (f : Nat → List Mk) : ∀ (L : List Int) (KL : List ByteArray) (S : List Int) (SK : List ByteArray) (Rr : List Int) (KR : List ByteArray), KL.length = L.length → SK.length + 1 = S.length →
    inmL f (L ++ S ++ Rr) (KL ++ SK ++ KR) = pre f L KL ++ inmL f S SK ++ post f KR Rr
  | [], [], c :: r, SK, Rr, KR, _, h2 => by
    simp only [List.length_cons, Nat.add_right_cancel_iff] at h2
    simp [inmL, pre, post_append f r Rr SK KR h2]
  | [], [], [], SK, _, _, _, h2 => by simp at h2
  | [], _ :: _, _, _, _, _, h, _ => by simp at h
  | _ :: _, [], _, _, _, _, h, _ => by simp at h
  | l :: L, k :: KL, S, SK, Rr, KR, h, h2 => by
    have ih := inmL_seg f L KL S SK Rr KR (by simpa using h) h2
    have e1 : inmL f (l :: L ++ S ++ Rr) (k :: KL ++ SK ++ KR) = f l.toNat ++ (k, none) :: inmL f (L ++ S ++ Rr) (KL ++ SK ++ KR) := by
      have hne : L ++ S ++ Rr ≠ [] := by
        intro e
        have := congrArg List.length e
        simp only [List.length_append, List.length_nil] at this
        omega
      cases hl : L ++ S ++ Rr with
      | nil => exact absurd hl hne
      | cons a r => rw [List.cons_append, List.cons_append, hl]; simp [inmL, post]
    have e2 : pre f (l :: L) (k :: KL) = f l.toNat ++ (k, none) :: pre f L KL := by simp [pre]
    rw [e1, ih, e2]
    simp
theorem inmL_one (f : Nat → List Mk) (c : Int) : inmL f [c] [] = f c.toNat := by simp [inmL, post]
def con (l : List Mk) : List En := l.filterMap fun m => m.2.map fun v => (m.1, v)
theorem con_append (a b : List Mk) : con (a ++ b) = con a ++ con b := by simp [con]
theorem con_sep (k : ByteArray) (l : List Mk) : con ((k, none) :: l) = con l := by simp [con]
theorem con_leaf (x : Nd) : con (leafm x) = x.ks.zip x.vs := by
  unfold con leafm
  rw [List.filterMap_map]
  have : ((fun m : Mk => m.2.map fun v => (m.1, v)) ∘ fun p : En => ((p.1, some p.2) : Mk)) = some := by funext p; rfl
  rw [this, List.filterMap_some]
theorem mem_con {l : List Mk} {e : En} (h : e ∈ con l) : (e.1, some e.2) ∈ l := by
  unfold con at h
  obtain ⟨m, hm, he⟩ := List.mem_filterMap.1 h
  obtain ⟨k, o⟩ := m
  cases o with
  | none => cases he
  | some v => simp at he; subst he; exact hm

theorem sl_asymm {a b : ByteArray} (h : sl a b = true) : sl b a = false := by
  cases h' : sl b a with
  | false => rfl
  | true => have := sl_trans h h'; rw [sl_irrefl] at this; cases this
theorem lt_le {a b c : ByteArray} (h : sl a b = true) (k : sl c b = false) : sl a c = true := by
  by_cases e : c = b
  · subst e; exact h
  · exact sl_trans h (sl_total k e)
theorem R_e {a b : ByteArray} {v : Vl} {o : Option Vl} : R (a, some v) (b, o) ↔ sl a b = true := by simp [R]
theorem R_s {a b : ByteArray} : R (a, none) (b, none) ↔ sl a b = true := by simp [R]
theorem R_se {a b : ByteArray} {v : Vl} : R (a, none) (b, some v) ↔ sl b a = false := by simp [R]
theorem R_none {a : Mk} {b : ByteArray} : R a (b, none) ↔ sl a.1 b = true := by simp [R]
theorem R_key {a : Mk} {b : ByteArray} {v : Vl} (h : sl a.1 b = true) : R a (b, some v) := by
  unfold R
  split
  · exact sl_asymm h
  · exact h
theorem pw_ins {X Y : List Mk} {m : Mk} (h : (X ++ Y).Pairwise R) (hx : ∀ a ∈ X, R a m) (hy : ∀ b ∈ Y, R m b) : (X ++ m :: Y).Pairwise R := by
  rw [List.pairwise_append] at h ⊢
  obtain ⟨h1, h2, h3⟩ := h
  refine ⟨h1, List.pairwise_cons.2 ⟨hy, h2⟩, fun a ha b hb => ?_⟩
  rcases List.mem_cons.1 hb with rfl | hb
  · exact hx a ha
  · exact h3 a ha b hb

def upd (k : ByteArray) (mid : List En) (l : List En) : List En := l.filter (fun e => sl e.1 k) ++ (mid ++ l.filter (fun e => sl k e.1))
theorem upd_ctx {k : ByteArray} {mid A B C : List En} (ha : ∀ e ∈ A, sl e.1 k = true) (hc : ∀ e ∈ C, sl k e.1 = true) : upd k mid (A ++ B ++ C) = A ++ upd k mid B ++ C := by
  have a1 : A.filter (fun e => sl e.1 k) = A := List.filter_eq_self.2 ha
  have a2 : A.filter (fun e => sl k e.1) = [] := List.filter_eq_nil_iff.2 (fun e he => by rw [sl_asymm (ha e he)]; decide)
  have c1 : C.filter (fun e => sl e.1 k) = [] := List.filter_eq_nil_iff.2 (fun e he => by rw [sl_asymm (hc e he)]; decide)
  have c2 : C.filter (fun e => sl k e.1) = C := List.filter_eq_self.2 hc
  unfold upd
  simp only [List.filter_append]
  rw [a1, a2, c1, c2]
  simp
def mk (e : En) : Mk := (e.1, some e.2)

theorem leaf_split (k : ByteArray) (v : Vl) : ∀ (ks : List ByteArray) (vs : List Vl), Up ks → vs.length = ks.length → ∃ l1 m0 l3 : List En, ks.zip vs = l1 ++ m0 ++ l3 ∧ (∀ e ∈ l1, sl e.1 k = true) ∧ (∀ e ∈ l3, sl k e.1 = true) ∧
    ((isk k ks = true ∧ m0 = [(k, oldV ks vs k)]) ∨ (isk k ks = false ∧ m0 = [])) ∧ (setK ks k).zip (setV ks vs k v) = l1 ++ (k, v) :: l3 ∧ (delK ks k).zip (delV ks vs k) = l1 ++ l3
  | [], vs, _, h => by
    obtain rfl : vs = [] := List.eq_nil_of_length_eq_zero (by simpa using h)
    refine ⟨[], [], [], rfl, by simp, by simp, .inr ⟨rfl, rfl⟩, ?_, ?_⟩ <;> simp [setK, setV, delK, delV, isk, fnd, ins]
  | k0 :: ks, [], _, h => by simp at h
  | k0 :: ks, v0 :: vs, hu, h => by
    have hu' := List.pairwise_cons.1 hu
    by_cases hs : sl k0 k = true
    · obtain ⟨l1, m0, l3, e, h1, h3, h4, h5, h6⟩ := leaf_split k v ks vs hu'.2 (by simpa using h)
      have ef : fnd k (k0 :: ks) = fnd k ks + 1 := by simp [fnd, hs]
      have ei : isk k (k0 :: ks) = isk k ks := by simp [isk, ef]
      have eo : oldV (k0 :: ks) (v0 :: vs) k = oldV ks vs k := by simp [oldV, ei, ef]
      refine ⟨(k0, v0) :: l1, m0, l3, by simp [e], ?_, h3, ?_, ?_, ?_⟩
      · intro x hx
        rcases List.mem_cons.1 hx with rfl | hx
        · exact hs
        · exact h1 x hx
      · rw [ei, eo]; exact h4
      · have : (setK (k0 :: ks) k).zip (setV (k0 :: ks) (v0 :: vs) k v) = (k0, v0) :: (setK ks k).zip (setV ks vs k v) := by
          unfold setK setV
          rw [ei, ef]
          split <;> simp [ins]
        rw [this, h5]; rfl
      · have : (delK (k0 :: ks) k).zip (delV (k0 :: ks) (v0 :: vs) k) = (k0, v0) :: (delK ks k).zip (delV ks vs k) := by
          unfold delK delV
          rw [ei, ef]
          split <;> simp [del]
        rw [this, h6]; rfl
    · have hs' : sl k0 k = false := by simpa using hs
      have ef : fnd k (k0 :: ks) = 0 := by simp [fnd, hs']
      by_cases he : k0 = k
      · subst he
        have ei : isk k0 (k0 :: ks) = true := by simp [isk, ef]
        refine ⟨[], [(k0, v0)], ks.zip vs, by simp, by simp, ?_, .inl ⟨ei, by simp [oldV, ei, ef]⟩, ?_, ?_⟩
        · intro x hx
          exact hu'.1 x.1 (List.of_mem_zip hx).1
        · simp [setK, setV, ei, ef]
        · simp [delK, delV, ei, ef, del]
      · have ei : isk k (k0 :: ks) = false := by simp [isk, ef, he]
        have hlt : sl k k0 = true := sl_total hs' he
        refine ⟨[], [], (k0, v0) :: ks.zip vs, by simp, by simp, ?_, .inr ⟨ei, rfl⟩, ?_, ?_⟩
        · intro x hx
          rcases List.mem_cons.1 hx with rfl | hx
          · exact hlt
          · exact sl_trans hlt (hu'.1 x.1 (List.of_mem_zip hx).1)
        · simp [setK, setV, ei, ef, ins]
        · simp [delK, delV, ei]
theorem upd_split {k : ByteArray} {l1 m0 l3 mid : List En} (h1 : ∀ e ∈ l1, sl e.1 k = true) (h3 : ∀ e ∈ l3, sl k e.1 = true) (h4 : ∀ e ∈ m0, e.1 = k) : upd k mid (l1 ++ m0 ++ l3) = l1 ++ (mid ++ l3) := by
  rw [upd_ctx h1 h3]
  have : upd k mid m0 = mid := by
    unfold upd
    rw [List.filter_eq_nil_iff.2 (fun e he => by rw [h4 e he, sl_irrefl]; decide), List.filter_eq_nil_iff.2 (fun e he => by rw [h4 e he, sl_irrefl]; decide)]
    simp
  rw [this, List.append_assoc]

def Ah (k : ByteArray) (A : List Mk) : Prop := ∀ a ∈ A, ∀ v, R a (k, some v)
def Be (k : ByteArray) (C : List Mk) : Prop := ∀ c ∈ C, sl k c.1 = true
theorem Ah.con {k : ByteArray} {A : List Mk} (h : Ah k A) : ∀ e ∈ con A, sl e.1 k = true := fun e he => R_e.1 (h _ (mem_con he) e.2)
theorem Be.con {k : ByteArray} {A : List Mk} (h : Be k A) : ∀ e ∈ con A, sl k e.1 = true := fun _ he => h _ (mem_con he)

theorem ord_set {A C : List Mk} {ks : List ByteArray} {vs : List Vl} {k : ByteArray} {v : Vl} (hu : Up ks) (hl : vs.length = ks.length) (ha : Ah k A) (hc : Be k C) (h : (A ++ (ks.zip vs).map mk ++ C).Pairwise R) :
    (A ++ ((setK ks k).zip (setV ks vs k v)).map mk ++ C).Pairwise R ∧ (A ++ ((delK ks k).zip (delV ks vs k)).map mk ++ C).Pairwise R ∧
    (setK ks k).zip (setV ks vs k v) = upd k [(k, v)] (ks.zip vs) ∧ (delK ks k).zip (delV ks vs k) = upd k [] (ks.zip vs) := by
  obtain ⟨l1, m0, l3, e, h1, h3, h4, h5, h6⟩ := leaf_split k v ks vs hu hl
  have hm : ∀ x ∈ m0, x.1 = k := by
    rcases h4 with ⟨_, rfl⟩ | ⟨_, rfl⟩
    · intro x hx; simp at hx; rw [hx]
    · simp
  rw [e, h5, h6, upd_split h1 h3 hm, upd_split h1 h3 hm]
  rw [e] at h
  have hd : (A ++ (l1 ++ l3).map mk ++ C).Pairwise R := h.sublist (by
    refine List.Sublist.append (List.Sublist.append (List.Sublist.refl A) (List.Sublist.map mk ?_)) (List.Sublist.refl C)
    exact List.Sublist.append (List.sublist_append_left l1 m0) (List.Sublist.refl l3))
  refine ⟨?_, hd, by simp, by simp⟩
  have e1 : A ++ (l1 ++ (k, v) :: l3).map mk ++ C = (A ++ l1.map mk) ++ (k, some v) :: (l3.map mk ++ C) := by simp [mk]
  rw [e1]
  have e2 : A ++ (l1 ++ l3).map mk ++ C = (A ++ l1.map mk) ++ (l3.map mk ++ C) := by simp
  rw [e2] at hd
  refine pw_ins hd (fun a hx => ?_) (fun b hx => ?_)
  · rcases List.mem_append.1 hx with hx | hx
    · exact ha a hx v
    · obtain ⟨y, hy, rfl⟩ := List.mem_map.1 hx; exact R_e.2 (h1 y hy)
  · rw [R_e]
    rcases List.mem_append.1 hx with hx | hx
    · obtain ⟨y, hy, rfl⟩ := List.mem_map.1 hx; exact h3 y hy
    · exact hc b hx

def plc (x : Nd) (k : ByteArray) : Nat := fnd k x.ks + (if isk k x.ks = true then 1 else 0)
theorem plc_le (x : Nd) (k : ByteArray) : plc x k ≤ x.ks.length := by
  unfold plc
  have := fnd_le k x.ks
  split
  · rename_i h; have := isk_lt h; omega
  · omega
theorem plc_below {x : Nd} (k : ByteArray) : ∀ a ∈ x.ks.take (plc x k), sl k a = false := by
  intro a ha
  obtain ⟨j, hj, e⟩ := List.getElem_of_mem ha
  rw [List.length_take] at hj
  have e2 : x.ks[j]? = some a := by rw [← e, List.getElem_take]; exact List.getElem?_eq_getElem (by omega)
  by_cases h : j < fnd k x.ks
  · exact sl_asymm (fnd_below k x.ks j a h e2)
  · have hp : plc x k = fnd k x.ks + (if isk k x.ks = true then 1 else 0) := rfl
    by_cases hi : isk k x.ks = true
    · rw [if_pos hi] at hp
      obtain rfl : j = fnd k x.ks := by omega
      rw [isk_at hi] at e2
      obtain rfl := Option.some.inj e2
      exact sl_irrefl _
    · rw [if_neg hi] at hp; omega
theorem plc_above {x : Nd} (hu : Up x.ks) (k : ByteArray) : ∀ a ∈ x.ks.drop (plc x k), sl k a = true := by
  intro a ha
  obtain ⟨j, hj, e⟩ := List.getElem_of_mem ha
  rw [List.length_drop] at hj
  rw [List.getElem_drop] at e
  have hlt := fnd_le k x.ks
  have e2 : x.ks[plc x k + j]? = some a := by rw [← e]; exact List.getElem?_eq_getElem (by omega)
  have hp : plc x k = fnd k x.ks + (if isk k x.ks = true then 1 else 0) := rfl
  have hfl : fnd k x.ks < x.ks.length := by omega
  have ef : x.ks[fnd k x.ks]? = some x.ks[fnd k x.ks] := List.getElem?_eq_getElem hfl
  have hge := fnd_at k x.ks _ ef
  by_cases hi : isk k x.ks = true
  · rw [if_pos hi] at hp
    rw [isk_at hi] at ef
    have hk := Option.some.inj ef
    have := (List.pairwise_iff_getElem.1 hu) (fnd k x.ks) (plc x k + j) hfl (by omega) (by omega)
    rw [← hk, e] at this
    exact this
  · rw [if_neg hi] at hp
    have hne : x.ks[fnd k x.ks] ≠ k := by
      intro q
      rw [q] at ef
      exact hi (by simp [isk, ef])
    have hk0 := sl_total hge hne
    by_cases hj0 : j = 0
    · subst hj0
      have e3 : x.ks[fnd k x.ks] = a := by
        have : plc x k + 0 = fnd k x.ks := by omega
        rw [this, ef] at e2
        exact Option.some.inj e2
      rw [← e3]; exact hk0
    · have := (List.pairwise_iff_getElem.1 hu) (fnd k x.ks) (plc x k + j) hfl (by omega) (by omega)
      rw [e] at this
      exact sl_trans hk0 this

theorem pre_ah (f : Nat → List Mk) {k : ByteArray} : ∀ (L : List Int) (KL : List ByteArray), KL.length = L.length → (∀ a ∈ KL, sl k a = false) → (pre f L KL).Pairwise R → Ah k (pre f L KL) := by
  intro L KL hl hk hp
  rcases List.eq_nil_or_concat KL with rfl | ⟨K0, kl, rfl⟩
  · obtain rfl : L = [] := List.eq_nil_of_length_eq_zero (by simpa using hl.symm)
    intro a ha; simp [pre] at ha
  · rcases List.eq_nil_or_concat L with rfl | ⟨L0, l, rfl⟩
    · simp at hl
    · have e : pre f (L0.concat l) (K0.concat kl) = (pre f L0 K0 ++ f l.toNat) ++ [(kl, none)] := by
        rw [List.concat_eq_append, List.concat_eq_append, pre_append f _ _ _ _ (by simp at hl; omega), pre_one]; simp
      rw [e] at hp ⊢
      rw [List.pairwise_append] at hp
      have hkl := hk kl (by simp)
      intro a ha v
      rcases List.mem_append.1 ha with ha | ha
      · have := hp.2.2 a ha (kl, none) (by simp)
        exact R_key (lt_le (R_none.1 this) hkl)
      · simp at ha; subst ha; exact R_se.2 hkl
theorem post_be (f : Nat → List Mk) {k : ByteArray} : ∀ (Rr : List Int) (KR : List ByteArray), KR.length = Rr.length → (∀ a ∈ KR, sl k a = true) → (post f KR Rr).Pairwise R → Be k (post f KR Rr)
  | [], [], _, _, _ => by intro c hc; simp [post] at hc
  | [], _ :: _, h, _, _ => by simp at h
  | _ :: _, [], h, _, _ => by simp at h
  | r :: Rr, kr :: KR, h, hk, hp => by
    have e : post f (kr :: KR) (r :: Rr) = (kr, none) :: (f r.toNat ++ post f KR Rr) := by simp [post]
    rw [e] at hp ⊢
    have h0 := hk kr (by simp)
    intro c hc
    rcases List.mem_cons.1 hc with rfl | hc
    · exact h0
    · have := (List.pairwise_cons.1 hp).1 c hc
      obtain ⟨c1, c2⟩ := c
      cases c2 with
      | none => exact sl_trans h0 (R_s.1 this)
      | some v => exact lt_le h0 (R_se.1 this)
theorem Ah.append {k : ByteArray} {A B : List Mk} (h : Ah k A) (g : Ah k B) : Ah k (A ++ B) := fun a ha => (List.mem_append.1 ha).elim (h a) (g a)
theorem Be.append {k : ByteArray} {A B : List Mk} (h : Be k A) (g : Be k B) : Be k (A ++ B) := fun a ha => (List.mem_append.1 ha).elim (h a) (g a)

theorem up_leaf {ks : List ByteArray} {vs : List Vl} (hl : vs.length = ks.length) (h : ((ks.zip vs).map mk).Pairwise R) : Up ks := by
  unfold Up
  rw [List.pairwise_map] at h
  have e : ks = (ks.zip vs).map Prod.fst := by rw [List.map_fst_zip (by omega)]
  rw [e, List.pairwise_map]
  exact h.imp (fun {a b} hab => R_e.1 hab)
theorem seps_sub (f : Nat → List Mk) : ∀ (K : List ByteArray) (C : List Int), K.length = C.length → List.Sublist (K.map fun k => ((k, none) : Mk)) (post f K C)
  | [], _, _ => by simp
  | k :: K, [], h => by simp at h
  | k :: K, c :: C, h => by
    have e : post f (k :: K) (c :: C) = (k, none) :: (f c.toNat ++ post f K C) := by simp [post]
    rw [e]
    exact List.Sublist.cons_cons _ ((seps_sub f K C (by simpa using h)).trans (List.sublist_append_right _ _))
theorem up_inner {f : Nat → List Mk} {ks : List ByteArray} {is : List Int} (hl : is.length = ks.length + 1) (h : (inmL f is ks).Pairwise R) : Up ks := by
  obtain ⟨c, r, rfl⟩ : ∃ c r, is = c :: r := by cases is with | nil => simp at hl | cons c r => exact ⟨c, r, rfl⟩
  have hs := (seps_sub f ks r (by simpa using hl.symm)).trans (List.sublist_append_right (f c.toNat) _)
  have := h.sublist hs
  rw [List.pairwise_map] at this
  exact this.imp (fun {a b} hab => R_s.1 hab)
theorem up_of {M : Pm} {d : Nat} {x : Nd} (hw : WfN M d x) (h : (fmN M d x).Pairwise R) : Up x.ks := by
  cases d with
  | zero => exact up_leaf (hw.2.lv hw.1).1 h
  | succ d => exact up_inner (f := fm M d) (hw.2.1.li hw.1).1 h

theorem num_one {n : Nat} (h : n ≤ 120) : (numL n).length = 1 := by rw [numL_last (by omega)]; rfl
theorem put_leaf {x : Nd} (g : N.Good x) (hl : x.leaf = true) : x.put.length = 1 + ksum x.ks + vsum x.vs := by
  rw [put_len, tot_leaf hl (g.lv hl).1 _ (Nat.le_refl _), List.take_length]
  have e : x.vs.take x.ks.length = x.vs := by rw [← (g.lv hl).1, List.take_length]
  rw [e]
  unfold Nd.head
  rw [if_pos hl, List.length_append, num_one g.few]
  simp; omega
theorem put_inner {x : Nd} (g : N.Good x) (hl : x.leaf = false) : x.put.length = 1 + ksum x.ks + isum x.is := by
  have hi := (g.li hl).1
  rw [put_len, tot_inner hl hi _ (Nat.le_refl _), List.take_length]
  obtain ⟨c, r, e⟩ : ∃ c r, x.is = c :: r := by cases h : x.is with | nil => rw [h] at hi; simp at hi | cons c r => exact ⟨c, r, rfl⟩
  rw [e] at hi
  have e1 : ((x.is.drop 1).take x.ks.length) = r := by rw [e]; simp at hi; simp [← hi]
  rw [e1, e]
  unfold Nd.head
  rw [if_neg (by rw [hl]; decide), List.length_append, num_one g.few, e]
  simp [isum]
  omega
theorem key_pos (k : ByteArray) : 1 + k.size ≤ (keyN k).length := by
  unfold keyN
  rw [List.length_append, un_length]
  have := num_pos k.size
  omega
theorem empty_size {k : ByteArray} (h : k.size = 0) : k = ⟨#[]⟩ := by
  obtain ⟨a⟩ := k
  have : a.size = 0 := h
  rw [Array.eq_empty_of_size_eq_zero this]
theorem sl_pos {a b : ByteArray} (h : sl a b = true) : 1 ≤ b.size := by
  rcases Nat.eq_zero_or_pos b.size with e | e
  · rw [empty_size e] at h
    unfold sl at h
    have : (⟨#[]⟩ : ByteArray).toList = [] := by rw [toList_eq]
    rw [this] at h
    cases a.toList <;> simp [Op.bytesLess] at h
  · exact e
theorem ksum_pos : ∀ (ks : List ByteArray), (∀ k ∈ ks, 1 ≤ k.size) → 2 * ks.length ≤ ksum ks
  | [], _ => by simp [ksum]
  | k :: r, h => by
    have ih := ksum_pos r (fun q hq => h q (List.mem_cons_of_mem _ hq))
    have h0 := h k List.mem_cons_self
    have h1 := key_pos k
    have e : ksum (k :: r) = (keyN k).length + ksum r := by simp [ksum]
    rw [e, List.length_cons]
    omega
theorem ksum_up {ks : List ByteArray} (h : Up ks) : 2 * ks.length ≤ ksum ks + 1 := by
  cases ks with
  | nil => simp
  | cons k r =>
    have := ksum_pos r (fun q hq => sl_pos ((List.pairwise_cons.1 h).1 q hq))
    have h1 := key_pos k
    have e : ksum (k :: r) = (keyN k).length + ksum r := by simp [ksum]
    rw [e, List.length_cons]
    omega
theorem isum_pos : ∀ (is : List Int), is.length ≤ isum is
  | [] => by simp
  | k :: r => by
    have ih := isum_pos r
    have h1 := num_pos k.toNat
    have e : isum (k :: r) = (numL k.toNat).length + isum r := by simp [isum]
    rw [e, List.length_cons]; omega
theorem vsum_pos : ∀ (vs : List Vl), 2 * vs.length ≤ vsum vs
  | [] => by simp
  | v :: r => by
    have ih := vsum_pos r
    have h1 : 2 ≤ (valN v).length := by
      unfold valN
      split
      · rw [List.length_append, List.length_append]
        have := num_pos 0
        have := num_pos v.d.size
        omega
      · rw [List.length_append, List.length_append]
        have := num_pos 1
        have := num_pos v.p.toNat
        omega
    have e : vsum (v :: r) = (valN v).length + vsum r := by simp [vsum]
    rw [e, List.length_cons]; omega
theorem few_of {x : Nd} (g : N.Good x) (hu : Up x.ks) : 3 * x.ks.length ≤ x.put.length := by
  have h1 := ksum_up hu
  cases hl : x.leaf with
  | true =>
    have h2 := vsum_pos x.vs
    rw [(g.lv hl).1] at h2
    rw [put_leaf g hl]; omega
  | false =>
    have h2 := isum_pos x.is
    rw [(g.li hl).1] at h2
    rw [put_inner g hl]; omega
theorem ksum_le (ks : List ByteArray) (h : ∀ k ∈ ks, k.size ≤ 64) : ksum ks ≤ 65 * ks.length := by
  induction ks with
  | nil => simp [ksum]
  | cons a r ih =>
    have h1 := keyN_length a (h a List.mem_cons_self)
    have h2 := ih (fun i hi => h i (List.mem_cons_of_mem _ hi))
    have e : ksum (a :: r) = (keyN a).length + ksum r := by simp [ksum]
    rw [e, List.length_cons]
    omega

def abv (x : Nd) (i j : Nat) (P : List Int) (K : List ByteArray) : Nd := ⟨false, x.ks.take i ++ K ++ x.ks.drop j, [], x.is.take i ++ P ++ x.is.drop (j + 1)⟩

def Ext (M M' : Pm) : Prop := ∀ q z, M q = some z → M' q = some z
theorem Ext.refl (M : Pm) : Ext M M := fun _ _ h => h
theorem Ext.trans {M M' M'' : Pm} (h : Ext M M') (k : Ext M' M'') : Ext M M'' := fun q z e => k q z (h q z e)

def pt (M : Pm) (n : Nat) (y : Nd) : Pm := fun k => if k = n then some y else M k
theorem pt_ext {M : Pm} {n : Nat} {y : Nd} (h : M n = none) : Ext M (pt M n y) := by
  intro q z hz
  unfold pt
  rw [if_neg (by rintro rfl; rw [h] at hz; cases hz)]
  exact hz
theorem pt_same (M : Pm) (n : Nat) (y : Nd) : pt M n y n = some y := by unfold pt; rw [if_pos rfl]
def us (M : Pm) (q : Nat) : Nat := if (M q).isSome = true then 1 else 0
theorem us_pt {M : Pm} {n : Nat} {y : Nd} (h : M n = none) (q : Nat) : us (pt M n y) q = us M q + [n].count q := by
  unfold us pt
  by_cases e : q = n
  · subst e; simp [h]
  · rw [if_neg e]; simp [Ne.symm e]

def pgs (M : Pm) (d : Nat) (C : List Int) : List Nat := C.flatMap fun c => pg M d c.toNat
structure Lv (M0 M : Pm) (d p : Nat) (wp : List Nat) (now : Nd) (joined added : List Nat) (A C : List Mk) (g : List En → List En) : Prop where
  ext : Ext M0 M
  used : ∀ q, us M q = us M0 q + added.count q
  wf : WfN M d now
  ord : (A ++ fmN M d now ++ C).Pairwise R
  cn : con (fmN M d now) = g (con (fm M0 d p))
  cnt : ∀ q, (pg M0 d p).count q + added.count q = (pgN M d now).count q + wp.count q + joined.count q
  size : now.put.length ≤ (if d = 0 then 352 else 308)

theorem at_kid {x : Nd} {i : Nat} {c : Int} (hi : x.is[i]? = some c) : x.is = x.is.take i ++ [c] ++ x.is.drop (i + 1) := by
  obtain ⟨h1, h2⟩ := List.getElem?_eq_some_iff.1 hi
  have := List.getElem_cons_drop h1
  rw [h2] at this
  rw [List.append_assoc, List.singleton_append, this, List.take_append_drop]
theorem fm_kid {M : Pm} {d : Nat} {x : Nd} (g : N.Good x) (hl : x.leaf = false) {i : Nat} {c : Int} (hi : x.is[i]? = some c) : fmN M (d + 1) x = pre (fm M d) (x.is.take i) (x.ks.take i) ++ fm M d c.toNat ++ post (fm M d) (x.ks.drop i) (x.is.drop (i + 1)) := by
  have hn := (g.li hl).1
  have hlt := (List.getElem?_eq_some_iff.1 hi).1
  have h := inmL_seg (fm M d) (x.is.take i) (x.ks.take i) [c] [] (x.is.drop (i + 1)) (x.ks.drop i) (by rw [List.length_take, List.length_take]; omega) rfl
  rw [← at_kid hi, List.append_nil, List.take_append_drop, inmL_one] at h
  exact h


structure Tr (M : Pm) (d n : Nat) : Prop where
  wf : Wf M d n
  ord : (fm M d n).Pairwise R
  cnt : ∀ q, (pg M d n).count q = us M q

def drp (M : Pm) (D : List Nat) : Pm := fun q => if q ∈ D then none else M q

structure Stp where
  page : Nat
  x : Nd
  kid : Nat

def nodeAt (M : Pm) (n : Nat) : Nd := (M n).getD ⟨true, [], [], []⟩
theorem nodeAt_some {M : Pm} {n : Nat} {y : Nd} (h : M n = some y) : nodeAt M n = y := by unfold nodeAt; rw [h]; rfl
def stpAt (M : Pm) (key : ByteArray) (n : Nat) : Stp := ⟨n, nodeAt M n, plc (nodeAt M n) key⟩
def nxt (M : Pm) (key : ByteArray) (n : Nat) : Nat := ((nodeAt M n).is[plc (nodeAt M n) key]?.getD 0).toNat
def path (M : Pm) (key : ByteArray) : Nat → Nat → List Stp
  | 0, n => [stpAt M key n]
  | d + 1, n => stpAt M key n :: path M key d (nxt M key n)
theorem path_length (M : Pm) (key : ByteArray) : ∀ d n, (path M key d n).length = d + 1
  | 0, _ => rfl
  | d + 1, n => by rw [path, List.length_cons, path_length M key d]
theorem path_zero (M : Pm) (key : ByteArray) (d n : Nat) : (path M key d n)[0]? = some (stpAt M key n) := by cases d <;> rfl

def cA (M : Pm) : Nat → List Stp → List Mk
  | _, [] => []
  | D, s :: r => pre (fm M (D - 1)) (s.x.is.take s.kid) (s.x.ks.take s.kid) ++ cA M (D - 1) r
def cC (M : Pm) : Nat → List Stp → List Mk
  | _, [] => []
  | D, s :: r => cC M (D - 1) r ++ post (fm M (D - 1)) (s.x.ks.drop s.kid) (s.x.is.drop (s.kid + 1))
structure Pf (M : Pm) (key : ByteArray) (d : Nat) (s : Stp) (A C : List Mk) : Prop where
  mem : M s.page = some s.x
  ne : s.x.ks ≠ []
  size : s.x.put.length ≤ 237
  wf : WfN M d s.x
  kid : s.kid = plc s.x key
  ah : Ah key A
  be : Be key C
  ord : (A ++ fmN M d s.x ++ C).Pairwise R

theorem Pf.up {M : Pm} {key : ByteArray} {d : Nat} {s : Stp} {A C : List Mk} (h : Pf M key d s A C) : Up s.x.ks :=
  up_of h.wf (h.ord.sublist ((List.sublist_append_right A _).trans (List.sublist_append_left _ C)))
theorem Pf.next {M : Pm} {key : ByteArray} {d : Nat} {s : Stp} {A C : List Mk} (h : Pf M key (d + 1) s A C) : ∃ c : Int, s.x.is[s.kid]? = some c ∧
    Pf M key d (stpAt M key c.toNat) (A ++ pre (fm M d) (s.x.is.take s.kid) (s.x.ks.take s.kid)) (post (fm M d) (s.x.ks.drop s.kid) (s.x.is.drop (s.kid + 1)) ++ C) := by
  have hn := (h.wf.2.1.li h.wf.1).1
  have hk : s.kid ≤ s.x.ks.length := by rw [h.kid]; exact plc_le _ _
  have hi : s.x.is[s.kid]? = some (s.x.is[s.kid]'(by omega)) := List.getElem?_eq_getElem (by omega)
  refine ⟨_, hi, ?_⟩
  obtain ⟨y, hy, a, b, c⟩ := h.wf.2.2 _ (List.mem_of_getElem? hi)
  have ho := h.ord
  rw [fm_kid h.wf.2.1 h.wf.1 hi, fm_some hy] at ho
  have ho2 : (A ++ pre (fm M d) (s.x.is.take s.kid) (s.x.ks.take s.kid) ++ fmN M d y ++ (post (fm M d) (s.x.ks.drop s.kid) (s.x.is.drop (s.kid + 1)) ++ C)).Pairwise R := by simpa using ho
  have es : stpAt M key (s.x.is[s.kid]'(by omega)).toNat = ⟨(s.x.is[s.kid]'(by omega)).toNat, y, plc y key⟩ := by unfold stpAt; rw [nodeAt_some hy]
  rw [es]
  refine ⟨hy, a, b, c, rfl, h.ah.append ?_, Be.append ?_ h.be, ho2⟩
  · refine pre_ah _ _ _ (by rw [List.length_take, List.length_take]; omega) (by rw [h.kid]; exact plc_below key) (ho2.sublist ?_)
    exact ((List.sublist_append_right A _).trans (List.sublist_append_left _ _)).trans (List.sublist_append_left _ _)
  · refine post_be _ _ _ (by rw [List.length_drop, List.length_drop]; omega) (by rw [h.kid]; exact plc_above h.up key) (ho2.sublist ?_)
    exact (List.sublist_append_left _ C).trans (List.sublist_append_right _ _)
theorem Pf.nxt {M : Pm} {key : ByteArray} {d : Nat} {s : Stp} {A C : List Mk} (h : Pf M key (d + 1) s A C) {c : Int} (hc : s.x.is[s.kid]? = some c) : B.nxt M key s.page = c.toNat := by
  unfold B.nxt
  rw [nodeAt_some h.mem, ← h.kid, hc]; rfl

theorem path_pf {M : Pm} {key : ByteArray} : ∀ (d n : Nat) (A C : List Mk), Pf M key d (stpAt M key n) A C → ∀ (k : Nat) (s : Stp), (path M key d n)[k]? = some s → k ≤ d ∧ Pf M key (d - k) s (A ++ cA M d ((path M key d n).take k)) (cC M d ((path M key d n).take k) ++ C)
  | 0, n, A, C, h, 0, s, e => by
    simp [path] at e; subst e
    exact ⟨Nat.le_refl _, by simpa [cA, cC] using h⟩
  | 0, n, A, C, h, k + 1, s, e => by simp [path] at e
  | d + 1, n, A, C, h, 0, s, e => by
    simp [path] at e; subst e
    exact ⟨by omega, by simpa [cA, cC] using h⟩
  | d + 1, n, A, C, h, k + 1, s, e => by
    obtain ⟨c, hc, h2⟩ := h.next
    have en : B.nxt M key n = c.toNat := h.nxt hc
    rw [path, en] at e ⊢
    simp only [List.getElem?_cons_succ] at e
    obtain ⟨a, b⟩ := path_pf d c.toNat _ _ h2 k s e
    refine ⟨by omega, ?_⟩
    rw [List.take_succ_cons, cA, cC]
    rw [show d + 1 - (k + 1) = d - k by omega, show d + 1 - 1 = d by omega]
    simpa using b
theorem path_next {M : Pm} {key : ByteArray} : ∀ (d n : Nat) (A C : List Mk), Pf M key d (stpAt M key n) A C → ∀ (k : Nat) (s s' : Stp), (path M key d n)[k]? = some s → (path M key d n)[k + 1]? = some s' → ∃ c : Int, s.x.is[s.kid]? = some c ∧ s'.page = c.toNat
  | 0, n, A, C, h, k, s, s', _, e => by simp [path] at e
  | d + 1, n, A, C, h, 0, s, s', e, e' => by
    obtain ⟨c, hc, h2⟩ := h.next
    have en : B.nxt M key n = c.toNat := h.nxt hc
    rw [path, en] at e e'
    simp at e; subst e
    simp only [List.getElem?_cons_succ, path_zero] at e'
    obtain rfl := Option.some.inj e'
    exact ⟨c, hc, rfl⟩
  | d + 1, n, A, C, h, k + 1, s, s', e, e' => by
    obtain ⟨c, hc, h2⟩ := h.next
    have en : B.nxt M key n = c.toNat := h.nxt hc
    rw [path, en] at e e'
    simp only [List.getElem?_cons_succ] at e e'
    exact path_next d c.toNat _ _ h2 k s s' e e'
theorem Pf.start {M : Pm} {key : ByteArray} {s : Stp} {A C : List Mk} (h : Pf M key 0 s A C) (hks : key.size ≤ 64) (v : Vl) (hv : Okv v) :
    Lv M M 0 s.page [s.page] ⟨true, setK s.x.ks key, setV s.x.ks s.x.vs key v, []⟩ [] [] A C (upd key [(key, v)]) ∧ Lv M M 0 s.page [s.page] ⟨true, delK s.x.ks key, delV s.x.ks s.x.vs key, []⟩ [] [] A C (upd key []) := by
  have hu := h.up
  have hl := h.wf.1
  have g := h.wf.2
  have lv := (g.lv hl).1
  have f := few_of g hu
  have hs := h.size
  obtain ⟨o1, o2, e1, e2⟩ := ord_set (v := v) hu lv h.ah h.be h.ord
  have hkl : (keyN key).length ≤ 65 := keyN_length key hks
  have hvl := valN_length v hv
  have fi := fnd_le key s.x.ks
  have g1 : N.Good ⟨true, setK s.x.ks key, setV s.x.ks s.x.vs key v, []⟩ := by
    refine ⟨?_, ?_, fun _ => ⟨setV_length _ _ _ _ lv, rfl⟩, (fun e => by cases e), ?_, (fun i hi => by cases hi)⟩
    · show (setK s.x.ks key).length ≤ 120
      rw [setK_length]; split <;> omega
    · intro k hk
      unfold setK at hk
      split at hk
      · exact g.small k hk
      · unfold ins at hk
        rcases List.mem_append.1 hk with hk | hk
        · exact g.small k (List.mem_of_mem_take hk)
        · rcases List.mem_cons.1 hk with rfl | hk
          · exact hks
          · exact g.small k (List.mem_of_mem_drop hk)
    · intro k hk
      unfold setV at hk
      split at hk
      · rcases List.mem_or_eq_of_mem_set hk with hk | rfl
        · exact g.ok k hk
        · exact hv
      · unfold ins at hk
        rcases List.mem_append.1 hk with hk | hk
        · exact g.ok k (List.mem_of_mem_take hk)
        · rcases List.mem_cons.1 hk with rfl | hk
          · exact hv
          · exact g.ok k (List.mem_of_mem_drop hk)
  have hdl : (delV s.x.ks s.x.vs key).length = (delK s.x.ks key).length ∧ (delK s.x.ks key).length ≤ s.x.ks.length := by
    unfold delK delV
    split
    · rename_i hi
      have := isk_lt hi
      rw [del_length _ _ this, del_length _ _ (by omega), lv]; omega
    · exact ⟨lv, Nat.le_refl _⟩
  have g2 : N.Good ⟨true, delK s.x.ks key, delV s.x.ks s.x.vs key, []⟩ := by
    refine ⟨?_, ?_, fun _ => ⟨hdl.1, rfl⟩, (fun e => by cases e), ?_, (fun i hi => by cases hi)⟩
    · show (delK s.x.ks key).length ≤ 120
      omega
    · intro k hk
      unfold delK at hk
      split at hk
      · unfold del at hk
        exact g.small k ((List.mem_append.1 hk).elim List.mem_of_mem_take List.mem_of_mem_drop)
      · exact g.small k hk
    · intro k hk
      unfold delV at hk
      split at hk
      · unfold del at hk
        exact g.ok k ((List.mem_append.1 hk).elim List.mem_of_mem_take List.mem_of_mem_drop)
      · exact g.ok k hk
  have ksp : ∀ i, ksum (s.x.ks.take i) + ksum (s.x.ks.drop i) = ksum s.x.ks := fun i => by rw [← ksum_app, List.take_append_drop]
  have vsp : ∀ i, vsum (s.x.vs.take i) + vsum (s.x.vs.drop i) = vsum s.x.vs := fun i => by rw [← vsum_app, List.take_append_drop]
  have hput := put_leaf g hl
  have ef : con (fm M 0 s.page) = s.x.ks.zip s.x.vs := by rw [fm_some h.mem, fmN_leaf, con_leaf]
  refine ⟨⟨Ext.refl _, fun q => by simp, ⟨rfl, g1⟩, o1, ?_, ?_, ?_⟩, ⟨Ext.refl _, fun q => by simp, ⟨rfl, g2⟩, o2, ?_, ?_, ?_⟩⟩
  · rw [ef, fmN_leaf, con_leaf]; exact e1
  · intro q; rw [pg_some h.mem]; simp [pgN]
  · rw [put_leaf g1 rfl, if_pos rfl]
    show 1 + ksum (setK s.x.ks key) + vsum (setV s.x.ks s.x.vs key v) ≤ 352
    have a := ksum_set s.x.ks key hks
    have b := vsum_setV s.x.ks s.x.vs key v hv
    omega
  · rw [ef, fmN_leaf, con_leaf]; exact e2
  · intro q; rw [pg_some h.mem]; simp [pgN]
  · rw [put_leaf g2 rfl, if_pos rfl]
    show 1 + ksum (delK s.x.ks key) + vsum (delV s.x.ks s.x.vs key) ≤ 352
    have a : ksum (delK s.x.ks key) ≤ ksum s.x.ks := by
      unfold delK
      split
      · unfold del
        rw [ksum_app]
        have := ksp (fnd key s.x.ks)
        have h2 : ksum (s.x.ks.drop (fnd key s.x.ks + 1)) ≤ ksum (s.x.ks.drop (fnd key s.x.ks)) := by
          have e : s.x.ks.drop (fnd key s.x.ks + 1) = (s.x.ks.drop (fnd key s.x.ks)).drop 1 := by rw [List.drop_drop]
          rw [e]
          have := congrArg ksum (List.take_append_drop 1 (s.x.ks.drop (fnd key s.x.ks)))
          rw [ksum_app] at this
          omega
        omega
      · exact Nat.le_refl _
    have b : vsum (delV s.x.ks s.x.vs key) ≤ vsum s.x.vs := by
      unfold delV
      split
      · unfold del
        rw [vsum_app]
        have := vsp (fnd key s.x.ks)
        have h2 : vsum (s.x.vs.drop (fnd key s.x.ks + 1)) ≤ vsum (s.x.vs.drop (fnd key s.x.ks)) := by
          have e : s.x.vs.drop (fnd key s.x.ks + 1) = (s.x.vs.drop (fnd key s.x.ks)).drop 1 := by rw [List.drop_drop]
          rw [e]
          have := congrArg vsum (List.take_append_drop 1 (s.x.vs.drop (fnd key s.x.ks)))
          rw [vsum_app] at this
          omega
        omega
      · exact Nat.le_refl _
    omega

def got (k : ByteArray) (l : List En) : Option Vl := (l.find? fun e => decide (e.1 = k)).map (·.2)
theorem got_ctx {k : ByteArray} {A B C : List En} (ha : ∀ e ∈ A, sl e.1 k = true) (hc : ∀ e ∈ C, sl k e.1 = true) : got k (A ++ B ++ C) = got k B := by
  unfold got
  have h1 : A.find? (fun e => decide (e.1 = k)) = none := List.find?_eq_none.2 (fun e he => by
    intro q
    have q' : e.1 = k := by simpa using q
    have := ha e he; rw [q', sl_irrefl] at this; cases this)
  have h3 : C.find? (fun e => decide (e.1 = k)) = none := List.find?_eq_none.2 (fun e he => by
    intro q
    have q' : e.1 = k := by simpa using q
    have := hc e he; rw [q', sl_irrefl] at this; cases this)
  rw [List.append_assoc, List.find?_append, h1, List.find?_append, h3]
  simp
theorem got_leaf {k : ByteArray} {ks : List ByteArray} {vs : List Vl} (hu : Up ks) (hl : vs.length = ks.length) : got k (ks.zip vs) = if isk k ks = true then some (oldV ks vs k) else none := by
  obtain ⟨l1, m0, l3, e, h1, h3, h4, _, _⟩ := leaf_split k ⟨⟨#[]⟩, -1, 0⟩ ks vs hu hl
  rw [e, got_ctx h1 h3]
  rcases h4 with ⟨h, rfl⟩ | ⟨h, rfl⟩
  · rw [if_pos h]; simp [got]
  · rw [if_neg (by rw [h]; decide)]; rfl
theorem path_got {M : Pm} {key : ByteArray} : ∀ (d n : Nat) (A C : List Mk), Pf M key d (stpAt M key n) A C → ∀ (s : Stp), (path M key d n)[d]? = some s → got key (con (fm M d n)) = if isk key s.x.ks = true then some (oldV s.x.ks s.x.vs key) else none
  | 0, n, A, C, h, s, e => by
    simp [path] at e; subst e
    have hm : M n = some (stpAt M key n).x := h.mem
    rw [fm_some hm, fmN_leaf, con_leaf]
    exact got_leaf h.up (h.wf.2.lv h.wf.1).1
  | d + 1, n, A, C, h, s, e => by
    obtain ⟨c, hc, h2⟩ := h.next
    have en : B.nxt M key n = c.toNat := h.nxt hc
    rw [path, en] at e
    simp only [List.getElem?_cons_succ] at e
    rw [← path_got d c.toNat _ _ h2 s e]
    have hm : M n = some (stpAt M key n).x := h.mem
    rw [fm_some hm, fm_kid h.wf.2.1 h.wf.1 hc, con_append, con_append]
    exact got_ctx (Ah.con (fun a ha => h2.ah a (List.mem_append_right _ ha))) (Be.con (fun a ha => h2.be a (List.mem_append_left _ ha)))

theorem wf_many {M : Pm} : ∀ (d : Nat) (x : Nd), WfN M d x → x.ks ≠ [] → 2 ^ d ≤ (con (fmN M d x)).length ∧ (pgN M d x).length + 2 ≤ 2 * (con (fmN M d x)).length
  | 0, x, w, hne => by
    rw [fmN_leaf, con_leaf, List.length_zip, (w.2.lv w.1).1, Nat.min_self]
    have : 0 < x.ks.length := List.length_pos_iff.2 hne
    simp [pgN]; omega
  | d + 1, x, w, hne => by
    have hk : 0 < x.ks.length := List.length_pos_iff.2 hne
    have hi := (w.2.1.li w.1).1
    have sub : ∀ c ∈ x.is, 2 ^ d ≤ (con (fm M d c.toNat)).length ∧ (pg M d c.toNat).length + 1 ≤ 2 * (con (fm M d c.toNat)).length := by
      intro c hc
      obtain ⟨y, hy, a, _, wy⟩ := w.2.2 c hc
      obtain ⟨h1, h2⟩ := wf_many d y wy a
      rw [fm_some hy, pg_some hy, List.length_cons]
      omega
    have sum : ∀ (K : List ByteArray) (L : List Int), K.length = L.length → (∀ c ∈ L, c ∈ x.is) → L.length * 2 ^ d ≤ (con (post (fm M d) K L)).length ∧ (pgs M d L).length + L.length ≤ 2 * (con (post (fm M d) K L)).length := by
      intro K L
      induction L generalizing K with
      | nil => intro h _; simp [pgs]
      | cons c r ih =>
        intro h hs
        obtain ⟨k, K', rfl⟩ : ∃ k K', K = k :: K' := by cases K with | nil => simp at h | cons k K' => exact ⟨k, K', rfl⟩
        obtain ⟨i1, i2⟩ := ih K' (by simpa using h) (fun q hq => hs q (List.mem_cons_of_mem _ hq))
        obtain ⟨s1, s2⟩ := sub c (hs c List.mem_cons_self)
        have e1 : con (post (fm M d) (k :: K') (c :: r)) = con (fm M d c.toNat) ++ con (post (fm M d) K' r) := by simp [post, con_sep, con_append]
        have e2 : pgs M d (c :: r) = pg M d c.toNat ++ pgs M d r := by simp [pgs]
        rw [e1, e2, List.length_append, List.length_append, List.length_cons, Nat.succ_mul]
        omega
    obtain ⟨c, r, e⟩ : ∃ c r, x.is = c :: r := by cases q : x.is with | nil => rw [q] at hi; simp at hi | cons c r => exact ⟨c, r, rfl⟩
    have hr : x.ks.length = r.length := by rw [e] at hi; simpa using hi.symm
    obtain ⟨t1, t2⟩ := sum x.ks r hr (fun q hq => by rw [e]; exact List.mem_cons_of_mem _ hq)
    obtain ⟨s1, s2⟩ := sub c (by rw [e]; exact List.mem_cons_self)
    have ef : con (fmN M (d + 1) x) = con (fm M d c.toNat) ++ con (post (fm M d) x.ks r) := by
      rw [fmN_inner]; unfold inm inmL; rw [e]; exact con_append _ _
    have ep : pgN M (d + 1) x = pg M d c.toNat ++ pgs M d r := by rw [pgN_inner, e]; simp [pgs]
    rw [ef, ep, List.length_append, List.length_append]
    have h3 : 1 * 2 ^ d ≤ r.length * 2 ^ d := Nat.mul_le_mul_right _ (by omega)
    rw [Nat.pow_succ]
    omega
theorem Tr.many {M : Pm} {d n : Nat} (h : Tr M d n) : 2 ^ d ≤ (con (fm M d n)).length ∧ (pg M d n).length + 1 ≤ 2 * (con (fm M d n)).length := by
  obtain ⟨y, hy, a, _, c⟩ := h.wf
  obtain ⟨h1, h2⟩ := wf_many d y c a
  rw [fm_some hy, pg_some hy, List.length_cons]
  omega

def Tree (M : Pm) (root : Int) (l : List En) : Prop := (root = -1 ∧ l = [] ∧ ∀ q, M q = none) ∨ ∃ d n : Nat, root = (n : Int) ∧ Tr M d n ∧ con (fm M d n) = l

end Go.Proofs.YtifeihnhkbagpaaGreatDoor.B
namespace Go.Proofs.YtifeihnhkbagpaaGreatDoor.N
open Go.ChangeShapes Go.WideShapes Go.ChangeAt Go.RowKit

structure Og (b : Nat) (w w' : World) : Prop where
  out : w.grownBy w' (some b)

theorem Og.trans {B : Nat} {a b c : World} (h : Og B a b) (k : Og B b c) : Og B a c :=
  ⟨k.out.os.trans h.out.os, k.out.tape.trans h.out.tape, k.out.output.trans h.out.output, Nat.le_trans h.out.size k.out.size, fun i hi hne => (k.out.block i (Nat.lt_of_lt_of_le hi h.out.size) hne).trans (h.out.block i hi hne)⟩
theorem Og.set (b j : Nat) (w : World) (v : Value) : Og b w (w.setCell ⟨b, j, none⟩ v) := ⟨grown_set w ⟨b, j, none⟩ v⟩
theorem Kept.og {w w' : World} (h : Kept w w') (b : Nat) : Og b w w' := ⟨h.grown _⟩
theorem C4.og {w w' : World} {c b : Nat} {t : TypeId} {a0 a1 a2 a3 : Value} (k : C4 w b t a0 a1 a2 a3) (h : Og c w w') (hb : b ≠ c) : C4 w' b t a0 a1 a2 a3 := k.grown h.out (fun e => hb (by injection e))
theorem C3.og {w w' : World} {c b : Nat} {t : TypeId} {a0 a1 a2 : Value} (k : C3 w b t a0 a1 a2) (h : Og c w w') (hb : b ≠ c) : C3 w' b t a0 a1 a2 := k.grown h.out (fun e => hb (by injection e))
theorem Og.own {w w' : World} {c : Nat} (h : Og c w w') {B : Nat} {e : TypeId} {sz : Nat} {p : Option Addr} {n cc : Nat} {cs : List Value} (k : Own w B e sz p n cc cs) (hb : c < B) : Own w' B e sz p n cc cs := by
  refine ⟨k.out.kept h.out ?_⟩
  cases hq : (Value.slice p n cc).ownBlock with
  | none => exact .inl rfl
  | some g => exact .inr (fun he => by have := (k.out.lt g hq).1; injection he with he; omega)
theorem Og.kept {w W W' : World} {c : Nat} (h : Og c W W') (k : Kept w W) (hb : w.heap.size ≤ c) : Kept w W' := ⟨k.out.grown h.out k.size (fun j hj => by injection hj with hj; omega)⟩

set_option maxRecDepth 100000 in
theorem rnum2 (n : Nat) (hn : n < 18446744073709551616) (t : List Nat) (ht : t.length ≤ 100000) (most : Nat) (hm : n ≤ most) {b : Nat} {w : World} (k : Rd w b (bs (numL n ++ t)) 0) :
    Calls Tryz.prog 171 #[.pointer (some ⟨b, 0, none⟩), .int .u64 (most : Nat)] w fun e w' => e = .returned (.int .u64 (n : Nat)) ∧ Rd w' b (bs t) 0 ∧ Og b w w' := by
  have h10 := numL_ten n hn
  have c0 := k.c0
  have f0 := k.f0 0
  have e13 := err_walk k
  have e33 := first_walk n hn t ht w
  have hx := bs_rest (numL n) t
  have hsz : (bs (numL n ++ t)).size = (numL n).length + t.length := by rw [bs_size]; simp
  have k2 := k.set0 (bs t)
  have o2 : Og b w (w.setCell ⟨b, 0, none⟩ (.string (bs t))) := Og.set _ _ _ _
  have K2 : Hid (Rd (w.setCell ⟨b, 0, none⟩ (.string (bs t))) b (bs t) 0) := k2
  generalize bs (numL n ++ t) = s at *
  generalize (numL n).length = L at *
  have hls : L ≤ s.size := by omega
  clear k2 hsz k
  go_enter Tryz.func171, Tryz.ntmps171
  go_wp2_with (first
    | (go_at_call 174; refine e13.mono ?_; rintro e w' ⟨rfl, rfl⟩)
    | (go_at_call 211; refine e33.mono ?_; rintro e w' ⟨rfl, rfl⟩))
  go_ret
  exact ⟨rfl, K2.out, o2⟩

set_option maxRecDepth 100000 in
theorem take2 (l t : List Nat) (x : Int) {b : Nat} {w : World} (k : Rd w b (bs (l ++ t)) x) :
    Calls Tryz.prog 172 #[.pointer (some ⟨b, 0, none⟩), .int .i64 (l.length : Nat)] w fun e w' => e = .returned (.string (bs l)) ∧ Rd w' b (bs t) x ∧ Og b w w' := by
  have c0 := k.c0
  have f0 := k.f0 0
  have h1 := bs_front l t
  have hx := bs_rest l t
  have hsz : (bs (l ++ t)).size = l.length + t.length := by rw [bs_size]; simp
  have k2 := k.set0 (bs t)
  have o2 : Og b w (w.setCell ⟨b, 0, none⟩ (.string (bs t))) := Og.set _ _ _ _
  have K2 : Hid (Rd (w.setCell ⟨b, 0, none⟩ (.string (bs t))) b (bs t) x) := k2
  generalize bs (l ++ t) = s at *
  have hls : l.length ≤ s.size := by omega
  clear k2 k hsz
  generalize l.length = L at *
  go_enter Tryz.func172, Tryz.ntmps172
  go_wp2
  go_ret
  exact ⟨rfl, K2.out, o2⟩

set_option maxRecDepth 100000 in
theorem rtext2_64 (l t : List Nat) (hl : l.length ≤ 64) (ht : t.length ≤ 20000) {b : Nat} {w : World} (k : Rd w b (bs (numL l.length ++ (l ++ t))) 0) :
    Calls Tryz.prog 208 #[.pointer (some ⟨b, 0, none⟩), .int .i64 64] w fun e w' => e = .returned (.string (bs l)) ∧ Rd w' b (bs t) 0 ∧ Og b w w' := by
  have h11 := rnum2 l.length (by omega) (l ++ t) (by simp; omega) 64 hl k
  have h21 := @take2 l t 0 b
  generalize bs (l ++ t) = s2 at *
  generalize l.length = L at *
  go_enter Tryz.func208, Tryz.ntmps208
  go_wp2_with (first
    | (go_at_call 171; refine h11.mono ?_; rintro e w1 ⟨rfl, k1, o1⟩)
    | (go_at_call 172; refine (h21 k1).mono ?_; rintro e w2 ⟨rfl, k2, o2⟩))
  go_ret
  exact ⟨rfl, k2, o1.trans o2⟩

set_option maxRecDepth 100000 in
theorem rtext2_48 (l t : List Nat) (hl : l.length ≤ 48) (ht : t.length ≤ 20000) {b : Nat} {w : World} (k : Rd w b (bs (numL l.length ++ (l ++ t))) 0) :
    Calls Tryz.prog 208 #[.pointer (some ⟨b, 0, none⟩), .int .i64 48] w fun e w' => e = .returned (.string (bs l)) ∧ Rd w' b (bs t) 0 ∧ Og b w w' := by
  have h11 := rnum2 l.length (by omega) (l ++ t) (by simp; omega) 48 hl k
  have h21 := @take2 l t 0 b
  generalize bs (l ++ t) = s2 at *
  generalize l.length = L at *
  go_enter Tryz.func208, Tryz.ntmps208
  go_wp2_with (first
    | (go_at_call 171; refine h11.mono ?_; rintro e w1 ⟨rfl, k1, o1⟩)
    | (go_at_call 172; refine (h21 k1).mono ?_; rintro e w2 ⟨rfl, k2, o2⟩))
  go_ret
  exact ⟨rfl, k2, o1.trans o2⟩

theorem rt64 (s : ByteArray) (hs : s.size ≤ 64) (t : List Nat) (ht : t.length ≤ 20000) {b : Nat} {w : World} (k : Rd w b (bs (keyN s ++ t)) 0) :
    Calls Tryz.prog 208 #[.pointer (some ⟨b, 0, none⟩), .int .i64 64] w fun e w' => e = .returned (.string s) ∧ Rd w' b (bs t) 0 ∧ Og b w w' := by
  have a := rtext2_64 (un s) t (by rw [un_length]; exact hs) ht (b := b) (w := w) (by rw [un_length]; unfold keyN at k; rwa [List.append_assoc] at k)
  rwa [bs_un] at a
theorem rt48 (s : ByteArray) (hs : s.size ≤ 48) (t : List Nat) (ht : t.length ≤ 20000) {b : Nat} {w : World} (k : Rd w b (bs (keyN s ++ t)) 0) :
    Calls Tryz.prog 208 #[.pointer (some ⟨b, 0, none⟩), .int .i64 48] w fun e w' => e = .returned (.string s) ∧ Rd w' b (bs t) 0 ∧ Og b w w' := by
  have a := rtext2_48 (un s) t (by rw [un_length]; exact hs) ht (b := b) (w := w) (by rw [un_length]; unfold keyN at k; rwa [List.append_assoc] at k)
  rwa [bs_un] at a

set_option maxHeartbeats 1000000 in
set_option maxRecDepth 100000 in
theorem value_walk (v : Vl) (hv : Okv v) (t : List Nat) (ht : t.length ≤ 18000) {b : Nat} {w : World} (k : Rd w b (bs (valN v ++ t)) 0) :
    Calls Tryz.prog 209 #[.pointer (some ⟨b, 0, none⟩)] w fun e w' => e = .returned (.agg #[.string v.d, .int .i64 v.p, .int .i64 v.l]) ∧ Rd w' b (bs t) 0 ∧ Og b w w' := by
  have hbl := k.lt
  have k0 := ((Kept.refl w).alloc (.cells #[.string ⟨#[]⟩, .int .i64 0, .int .i64 0] 77)).rd k
  have R0 := C3.alloc w 77 (.string ⟨#[]⟩) (.int .i64 0) (.int .i64 0)
  have o0 := ((Kept.refl w).alloc (.cells #[.string ⟨#[]⟩, .int .i64 0, .int .i64 0] 77)).og b
  obtain ⟨d, p, ln⟩ := v
  rcases hv with ⟨h1, h2, h3⟩ | ⟨h1, p', l', h2, h3, h4, h5, h6⟩
  · simp only at h1 h2 h3
    subst h1; subst h2
    have e2 : valN ⟨d, -1, 0⟩ ++ t = numL 0 ++ (keyN d ++ t) := by unfold valN keyN; rw [if_pos (by show (-1 : Int) < 0; decide), List.append_assoc]
    rw [e2] at k0
    have z := keyN_length d (by omega)
    have a1 := rnum2 0 (by decide) (keyN d ++ t) (by rw [List.length_append]; omega) 1 (by decide) k0
    have a2 := fun W => @rt48 d h3 t (by omega) b W
    have hne : ¬ (w.heap.size = b) := by omega
    have A1 : Calls Tryz.prog 171 #[.pointer (some ⟨b, 0, none⟩), .int .u64 1] (w.alloc (.cells #[.string ⟨#[]⟩, .int .i64 0, .int .i64 0] 77)) fun e w' => e = .returned (.int .u64 0) ∧ Rd w' b (bs (keyN d ++ t)) 0 ∧ Og b (w.alloc (.cells #[.string ⟨#[]⟩, .int .i64 0, .int .i64 0] 77)) w' := a1
    have A2 : Hid (∀ W, Rd W b (bs (keyN d ++ t)) 0 → Calls Tryz.prog 208 #[.pointer (some ⟨b, 0, none⟩), .int .i64 48] W fun e w' => e = .returned (.string d) ∧ Rd w' b (bs t) 0 ∧ Og b W w') := a2
    clear a1 a2 k0 k e2
    go_enter Tryz.func209, Tryz.ntmps209
    go_wp2_with (first
      | (go_at_call 171
         (with_reducible refine A1.mono ?_)
         rintro e v1 ⟨rfl, r1, o1⟩)
      | (go_at_call 208
         (with_reducible refine (A2.out _ r1).mono ?_)
         rintro e v2 ⟨rfl, r2, o2⟩
         have R2 := R0.og (o1.trans o2) hne
         obtain ⟨⟨g0, f0⟩, ⟨g1, f1⟩, ⟨g2, f2⟩, hfin⟩ := ready3 R2.out (.string d) (.int .i64 (-1)) (.int .i64 0)))
    have q1 : Rd (((v2.setCell ⟨w.heap.size, 0, none⟩ (.string d)).setCell ⟨w.heap.size, 1, none⟩ (.int .i64 (-1))).setCell ⟨w.heap.size, 2, none⟩ (.int .i64 0)) b (bs t) 0 := ⟨(others3 v2 (by omega) _ _ _).trans r2.out⟩
    generalize hW : (((v2.setCell ⟨w.heap.size, 0, none⟩ (.string d)).setCell ⟨w.heap.size, 1, none⟩ (.int .i64 (-1))).setCell ⟨w.heap.size, 2, none⟩ (.int .i64 0)) = WF at hfin q1 ⊢
    refine bodyPost_ret (v := .agg #[.string d, .int .i64 (-1), .int .i64 0]) ?_ rfl ⟨rfl, q1, ?_⟩
    · exact results_cell_row (p := 2) rfl _ _ w.heap.size 77 #[.string d, .int .i64 (-1), .int .i64 0] (0, 0) _ rfl hfin Tryz.underlying77 rfl size77
    · have o12 := o1.trans o2
      rw [← hW]
      refine ⟨o12.out.os, o12.out.tape, o12.out.output, ?_, ?_⟩
      · rw [size_set, size_set, size_set]; exact ((o0.trans o12)).out.size
      · intro j hj hne2
        rw [others3 v2 (by omega) _ _ _]
        exact (o0.trans o12).out.block j hj hne2
  · simp only at h1 h2 h4
    subst h1; subst h2; subst h4
    have e2 : valN ⟨⟨#[]⟩, (p' : Int), (l' : Int)⟩ ++ t = numL 1 ++ (numL p' ++ (numL l' ++ t)) := by unfold valN; rw [if_neg (by show ¬ (p' : Int) < 0; omega)]; simp
    rw [e2] at k0
    have z1 := num_small p' (by omega)
    have z2 := num_small l' (by omega)
    have a1 := rnum2 1 (by decide) (numL p' ++ (numL l' ++ t)) (by simp; omega) 1 (by decide) k0
    have a2 := fun W => @rnum2 p' (by omega) (numL l' ++ t) (by simp; omega) 16383 (by omega) b W
    have a3 := fun W => @rnum2 l' (by omega) t (by omega) 65536 (by omega) b W
    have hne : ¬ (w.heap.size = b) := by omega
    have u1 : IntKind.i64.wrap (p' : Int) = (p' : Int) := by rw [IntKind.wrap_i64]; omega
    have u2 : IntKind.i64.wrap (l' : Int) = (l' : Int) := by rw [IntKind.wrap_i64]; omega
    have A1 : Calls Tryz.prog 171 #[.pointer (some ⟨b, 0, none⟩), .int .u64 1] (w.alloc (.cells #[.string ⟨#[]⟩, .int .i64 0, .int .i64 0] 77)) fun e w' => e = .returned (.int .u64 1) ∧ Rd w' b (bs (numL p' ++ (numL l' ++ t))) 0 ∧ Og b (w.alloc (.cells #[.string ⟨#[]⟩, .int .i64 0, .int .i64 0] 77)) w' := a1
    have A2 : Hid (∀ W, Rd W b (bs (numL p' ++ (numL l' ++ t))) 0 → Calls Tryz.prog 171 #[.pointer (some ⟨b, 0, none⟩), .int .u64 16383] W fun e w' => e = .returned (.int .u64 (p' : Nat)) ∧ Rd w' b (bs (numL l' ++ t)) 0 ∧ Og b W w') := a2
    have A3 : Hid (∀ W, Rd W b (bs (numL l' ++ t)) 0 → Calls Tryz.prog 171 #[.pointer (some ⟨b, 0, none⟩), .int .u64 65536] W fun e w' => e = .returned (.int .u64 (l' : Nat)) ∧ Rd w' b (bs t) 0 ∧ Og b W w') := a3
    clear a1 a2 a3 k0 k e2
    go_enter Tryz.func209, Tryz.ntmps209
    go_wp2_with (first
      | (go_at_call 171
         (with_reducible refine A1.mono ?_)
         rintro e v1 ⟨rfl, r1, o1⟩)
      | (go_at_call 171
         (with_reducible refine (A2.out _ r1).mono ?_)
         rintro e v2 ⟨rfl, r2, o2⟩)
      | (go_at_call 171
         (with_reducible refine (A3.out _ r2).mono ?_)
         rintro e v3 ⟨rfl, r3, o3⟩
         have R2 := R0.og ((o1.trans o2).trans o3) hne
         obtain ⟨⟨g0, f0⟩, ⟨g1, f1⟩, ⟨g2, f2⟩, hfin⟩ := ready3 R2.out (.string ⟨#[]⟩) (.int .i64 (p' : Nat)) (.int .i64 (l' : Nat))))
    have q1 : Rd (((v3.setCell ⟨w.heap.size, 0, none⟩ (.string ⟨#[]⟩)).setCell ⟨w.heap.size, 1, none⟩ (.int .i64 (p' : Nat))).setCell ⟨w.heap.size, 2, none⟩ (.int .i64 (l' : Nat))) b (bs t) 0 := ⟨(others3 v3 (by omega) _ _ _).trans r3.out⟩
    generalize hW : (((v3.setCell ⟨w.heap.size, 0, none⟩ (.string ⟨#[]⟩)).setCell ⟨w.heap.size, 1, none⟩ (.int .i64 (p' : Nat))).setCell ⟨w.heap.size, 2, none⟩ (.int .i64 (l' : Nat))) = WF at hfin q1 ⊢
    refine bodyPost_ret (v := .agg #[.string ⟨#[]⟩, .int .i64 (p' : Nat), .int .i64 (l' : Nat)]) ?_ rfl ⟨rfl, q1, ?_⟩
    · exact results_cell_row (p := 2) rfl _ _ w.heap.size 77 #[.string ⟨#[]⟩, .int .i64 (p' : Nat), .int .i64 (l' : Nat)] (0, 0) _ rfl hfin Tryz.underlying77 rfl size77
    · have o12 := (o1.trans o2).trans o3
      rw [← hW]
      refine ⟨o12.out.os, o12.out.tape, o12.out.output, ?_, ?_⟩
      · rw [size_set, size_set, size_set]; exact ((o0.trans o12)).out.size
      · intro j hj hne2
        rw [others3 v3 (by omega) _ _ _]
        exact (o0.trans o12).out.block j hj hne2
end Go.Proofs.YtifeihnhkbagpaaGreatDoor.N