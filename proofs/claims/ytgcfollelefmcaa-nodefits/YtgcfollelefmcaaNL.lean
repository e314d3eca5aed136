/- Nodes in plain words and in memory; the walk of node.item for whatever node may be; a builder of texts while it is written. Conditions: the node may be. -/
import Derived.Test.YtgcfollelefmcaaNK
import Derived.Test.YtgcfollelefmcaaShelf
namespace Go.Proofs.Ytgcfollelefmcaa
open Go.ChangeShapes Go.WideShapes Go.ChangeAt Go.RowKit

/-- A node. -/
structure Nd where
  leaf : Bool
  ks : List ByteArray
  vs : List Vl
  is : List Int

def Nd.item (x : Nd) (i : Nat) : List Nat := keyN (x.ks[i]?.getD ⟨#[]⟩) ++ (if x.leaf = true then valN (x.vs[i]?.getD ⟨⟨#[]⟩, -1, 0⟩) else numL (x.is[i + 1]?.getD 0).toNat)
def Nd.items (x : Nd) : Nat → List Nat
  | 0 => []
  | i + 1 => x.items i ++ x.item i
def Nd.head (x : Nd) : List Nat := numL x.ks.length ++ (if x.leaf = true then [] else numL (x.is[0]?.getD 0).toNat)
/-- A node's bytes. -/
def Nd.put (x : Nd) : List Nat := x.head ++ x.items x.ks.length

/-- A node that may be. -/
structure Good (x : Nd) : Prop where
  few : x.ks.length ≤ 100
  small : ∀ k ∈ x.ks, k.size ≤ 64
  lv : x.leaf = true → x.vs.length = x.ks.length ∧ x.is = []
  li : x.leaf = false → x.is.length = x.ks.length + 1 ∧ x.vs = []
  ok : ∀ v ∈ x.vs, Okv v
  ik : ∀ i ∈ x.is, ∃ q : Nat, i = (q : Int) ∧ q ≤ 16383

/-- A node in memory. -/
structure NV (w : World) (l : Bool) (kp : Option Addr) (nk kc : Nat) (vp : Option Addr) (nv vc : Nat) (ip : Option Addr) (ni ic : Nat) (x : Nd) : Prop where
  hl : x.leaf = l
  k : Rw w 1 kp nk kc (kcl x.ks)
  v : Rw w 3 vp nv vc (vcl x.vs)
  i : Rw w 1 ip ni ic (icl x.is)

theorem NV.kept {w w' : World} {l : Bool} {kp : Option Addr} {nk kc : Nat} {vp : Option Addr} {nv vc : Nat} {ip : Option Addr} {ni ic : Nat} {x : Nd} (h : NV w l kp nk kc vp nv vc ip ni ic x) (k : Kept w w') : NV w' l kp nk kc vp nv vc ip ni ic x := ⟨h.hl, k.rw h.k, k.rw h.v, k.rw h.i⟩
theorem NV.nk {w : World} {l : Bool} {kp : Option Addr} {nk kc : Nat} {vp : Option Addr} {nv vc : Nat} {ip : Option Addr} {ni ic : Nat} {x : Nd} (h : NV w l kp nk kc vp nv vc ip ni ic x) : x.ks.length = nk := by
  have := h.k.len; rwa [kcl_length, Nat.mul_one] at this
theorem NV.nv {w : World} {l : Bool} {kp : Option Addr} {nk kc : Nat} {vp : Option Addr} {nv vc : Nat} {ip : Option Addr} {ni ic : Nat} {x : Nd} (h : NV w l kp nk kc vp nv vc ip ni ic x) : x.vs.length = nv := by
  have := h.v.len; rw [vcl_length] at this; omega
theorem NV.ni {w : World} {l : Bool} {kp : Option Addr} {nk kc : Nat} {vp : Option Addr} {nv vc : Nat} {ip : Option Addr} {ni ic : Nat} {x : Nd} (h : NV w l kp nk kc vp nv vc ip ni ic x) : x.is.length = ni := by
  have := h.i.len; rwa [icl_length, Nat.mul_one] at this

theorem Rw.some {w : World} {sz : Nat} {p : Option Addr} {n c : Nat} {cs : List Value} (h : Rw w sz p n c cs) (hn : 0 < n) : ∃ b off, p = some ⟨b, off, none⟩ ∧ ∀ j u, cs[j]? = some u → w.cell? ⟨b, off + j, none⟩ = some u :=
  h.out.resolve_left (fun q => by omega)

theorem item_walk {w : World} {l : Bool} {kp : Option Addr} {nk kc : Nat} {vp : Option Addr} {nv vc : Nat} {ip : Option Addr} {ni ic : Nat} {x : Nd} (h : NV w l kp nk kc vp nv vc ip ni ic x) (g : Good x) (i : Nat) (hi : i < nk) :
    Calls Try.prog 30 #[.agg #[.bool l, .slice kp nk kc, .slice vp nv vc, .slice ip ni ic], .int .i64 (i : Nat)] w fun e w' => e = .returned (.string (bs (x.item i))) ∧ Kept w w' := by
  have hnk := h.nk
  have hnv := h.nv
  have hni := h.ni
  obtain ⟨k, hk⟩ : ∃ k, x.ks[i]? = some k := ⟨_, List.getElem?_eq_getElem (by omega)⟩
  obtain ⟨kb, ko, rfl, hkc⟩ := h.k.some (by omega)
  have c0 := hkc i _ (kcl_at hk)
  have hks := g.small k (List.mem_of_getElem? hk)
  cases l with
  | true =>
    have hv2 := (g.lv h.hl).1
    obtain ⟨v, hv⟩ : ∃ v, x.vs[i]? = some v := ⟨_, List.getElem?_eq_getElem (by omega)⟩
    obtain ⟨vb, vo, rfl, hvc⟩ := h.v.some (by omega)
    obtain ⟨a0, a1, a2⟩ := vcl_at hv
    have b0 := hvc _ _ a0
    have b1 := hvc _ _ a1
    have b2 := hvc _ _ a2
    rw [← Nat.add_assoc] at b1 b2
    have e1 : x.item i = keyN k ++ valN v := by unfold Nd.item; rw [hk, hv, if_pos h.hl]; rfl
    rw [e1]
    obtain ⟨d, p, ln⟩ := v
    rcases g.ok _ (List.mem_of_getElem? hv) with ⟨h1, h2, h3⟩ | ⟨h1, p', l', h2, h3, h4, h5, h6⟩
    · simp only at h1 h2 h3
      subst h1; subst h2
      have e2 : valN ⟨d, -1, 0⟩ = numL 0 ++ (numL d.size ++ un d) := by unfold valN; rw [if_pos (by show (-1 : Int) < 0; decide)]
      rw [e2]
      exact item_here hi (by omega) c0 b0 b1 b2 hks h3
    · simp only at h1 h2 h4
      subst h2; subst h4
      have e2 : valN ⟨d, (p' : Int), (l' : Int)⟩ = numL 1 ++ (numL p' ++ numL l') := by unfold valN; rw [if_neg (by show ¬ (p' : Int) < 0; omega)]; rfl
      rw [e2]
      exact item_apart hi (by omega) c0 b0 b1 b2 hks (by omega) (by omega)
  | false =>
    have hv2 := (g.li h.hl).1
    obtain ⟨v, hv⟩ : ∃ v, x.is[i + 1]? = some v := ⟨_, List.getElem?_eq_getElem (by omega)⟩
    obtain ⟨ib, io, rfl, hvc⟩ := h.i.some (by omega)
    have b0 := hvc _ _ (icl_at hv)
    obtain ⟨q, rfl, hq⟩ := g.ik v (List.mem_of_getElem? hv)
    have e1 : x.item i = keyN k ++ numL q := by unfold Nd.item; rw [hk, hv, if_neg (by rw [h.hl]; decide)]; rfl
    rw [e1]
    exact item_inner hi (by omega) (by have := g.few; omega) c0 b0 hks (by omega)

/-- A builder while it is written: the world ahead of it, what is written. -/
structure St (W1 : World) (L : List Nat) (W : World) : Prop where
  b : Lib.IsBuilderF 66 5 W1.heap.size W1.heap.size (Lib.byteCells (L.map UInt8.ofNat)) W
  k : Kept W1 W
  len : L.length ≤ 100000

theorem St.start (W1 : World) : St W1 [] (W1.alloc (.cells #[.pointer none, .slice none 0 0] 66)) :=
  ⟨.inl ⟨Nat.le_refl _, .slice none 0 0, heap_alloc_new W1 _, World.ownsRowF_nil _ _ _ _, by simp [Value.ownBlock]⟩, (Kept.refl W1).alloc _, Nat.zero_le _⟩
theorem St.kept {W1 W W' : World} {L : List Nat} (h : St W1 L W) (k : Kept W W') : St W1 L W' := by
  have key : ∀ p, Lib.BuilderAtF 66 5 W1.heap.size W1.heap.size p (Lib.byteCells (L.map UInt8.ofNat)) W → Lib.BuilderAtF 66 5 W1.heap.size W1.heap.size p (Lib.byteCells (L.map UInt8.ofNat)) W' := by
    rintro p ⟨h1, v, h2, h3, h4⟩
    exact ⟨h1, v, k.block h2, h3.kept (k.grown none) (by cases v.ownBlock <;> simp), h4⟩
  exact ⟨h.b.elim (fun x => .inl (key _ x)) (fun x => .inr (key _ x)), h.k.trans k, h.len⟩
theorem St.write {W1 W : World} {L : List Nat} (h : St W1 L W) (M : List Nat) (hm : L.length + M.length ≤ 100000) :
    Calls Try.prog 28 #[.pointer (some ⟨W1.heap.size, 0, none⟩), .string (bs M)] W fun e w' => e = .returned (.tuple #[.int .i64 ((bs M).size : Nat), .nilIface]) ∧ St W1 (L ++ M) w' := by
  refine (Try.Builder_WriteString_k _ _ _ (bs M) W h.b (by rw [Lib.byteCells_length, List.length_map, bs_size]; omega) h.k.size).mono ?_
  rintro e w' ⟨rfl, h1, h2, h3⟩
  refine ⟨rfl, ⟨?_, ⟨h.k.out.trans h2⟩, by rw [List.length_append]; exact hm⟩⟩
  rw [List.map_append, Lib.byteCells_append]
  exact Or.inr h1
theorem St.text {W1 W : World} {L : List Nat} (h : St W1 L W) :
    Calls Try.prog 31 #[.pointer (some ⟨W1.heap.size, 0, none⟩)] W fun e w' => e = .returned (.string (bs L)) ∧ Kept W1 w' := by
  refine (Try.Builder_String_any_k _ _ (L.map UInt8.ofNat) W h.b h.k.size).mono ?_
  rintro e w' ⟨rfl, _, h2, _⟩
  exact ⟨rfl, ⟨h.k.out.trans h2⟩⟩

theorem num_ten (n : Nat) (h : n ≤ 16432) : (numL n).length ≤ 3 := num_small n h
theorem item_length {x : Nd} (g : Good x) (i : Nat) (hi : i < x.ks.length) : (x.item i).length ≤ 115 := by
  obtain ⟨k, hk⟩ : ∃ k, x.ks[i]? = some k := ⟨_, List.getElem?_eq_getElem hi⟩
  have a := keyN_length k (g.small k (List.mem_of_getElem? hk))
  unfold Nd.item
  rw [hk, List.length_append]
  cases hl : x.leaf with
  | true =>
    have hv2 := (g.lv hl).1
    obtain ⟨v, hv⟩ : ∃ v, x.vs[i]? = some v := ⟨_, List.getElem?_eq_getElem (by omega)⟩
    have b := valN_length v (g.ok _ (List.mem_of_getElem? hv))
    rw [if_pos rfl, hv]
    show (keyN k).length + (valN v).length ≤ 115
    omega
  | false =>
    have hv2 := (g.li hl).1
    obtain ⟨v, hv⟩ : ∃ v, x.is[i + 1]? = some v := ⟨_, List.getElem?_eq_getElem (by omega)⟩
    obtain ⟨q, rfl, hq⟩ := g.ik v (List.mem_of_getElem? hv)
    have b := num_small q (by omega)
    rw [if_neg (by decide), hv]
    show (keyN k).length + (numL q).length ≤ 115
    omega
theorem items_length {x : Nd} (g : Good x) : ∀ i, i ≤ x.ks.length → (x.items i).length ≤ i * 115
  | 0, _ => by simp [Nd.items]
  | i + 1, h => by
    have a := items_length g i (by omega)
    have b := item_length g i (by omega)
    rw [Nd.items, List.length_append]
    omega
theorem head_length {x : Nd} (g : Good x) : x.head.length ≤ 6 := by
  have a := num_small x.ks.length (by have := g.few; omega)
  unfold Nd.head
  rw [List.length_append]
  split
  · simp; omega
  · rename_i hl
    have hv2 := (g.li (by simpa using hl)).1
    obtain ⟨v, hv⟩ : ∃ v, x.is[0]? = some v := ⟨_, List.getElem?_eq_getElem (by omega)⟩
    obtain ⟨q, rfl, hq⟩ := g.ik v (List.mem_of_getElem? hv)
    have b := num_small q (by omega)
    rw [hv]
    show (numL x.ks.length).length + (numL q).length ≤ 6
    omega
end Go.Proofs.Ytgcfollelefmcaa
