/- Joined: CD CE CF CG. What is proved of the functions beneath StoreNone. Conditions: those that each row names. -/
import Derived.Test.YtifeihnhkbagpaaGreatDoorZbk
import Derived.RangeFuncNested
import Derived.RangeFuncBound
import Derived.RangeFuncCalls
import Derived.RangeFuncLeaves
import Derived.Shelf.Abstract
import Derived.Shelf.RegionOpen
import Derived.WalkKit
import Derived.OwnWalkIn
import Derived.TacticsInMore
import Derived.LoopNIn
import Derived.LoopIn
import Derived.Maps.AppendAt
namespace Go.Proofs.YtifeihnhkbagpaaGreatDoor.T
open Go.RowKit Go.Shelf
open B (Pm Mk En R plc)
open N (Nd NV Rw Rx Kept kcl vcl icl Vl Up sl fnd isk)
attribute [local go_sem] Oper.semAt_some

theorem room_wide_any (k : Nat) : Fence.wide.room k := fun d h => by cases h
theorem round_any {m m' : Nat} {P : Program} {l : Nat} {f : FuncId} {tmps : Array Value} {assign body : Code} {w : World} {R : Ending → World → Prop}
    (h : RoundIn Fence.wide m P l f tmps assign body w R) : RoundIn Fence.wide m' P l f tmps assign body w R := ⟨h.1, fun c cs _ => h.2 c cs (room_wide_any _)⟩
theorem yield_any {m : Nat} (m' : Nat) {P : Program} {l : Nat} {args : Array Value} {W : World} {R : Ending → World → Prop} (h : YieldAt Fence.wide m P l args W R) : YieldAt Fence.wide m' P l args W R := by
  obtain ⟨fn, tmps, assign, body, hy, hR⟩ := h
  exact ⟨fn, tmps, assign, body, hy, round_any hR⟩

structure Kq (n₀ : Nat) (W W' : World) : Prop where
  below : Below n₀ W W'
  rows : ∀ (b : Nat) (cs : Array Value) (ty : TypeId) (fr : Nat × Nat), W.heap[b]? = some (.cells cs ty fr) → (ty = 175 ∨ ty = 9 ∨ ty = 77 ∨ ty = 72) → W'.heap[b]? = some (.cells cs ty fr)
theorem Kq.refl (n₀ : Nat) (W : World) : Kq n₀ W W := ⟨Below.refl _ _, fun _ _ _ _ h _ => h⟩
theorem Kq.trans {n₀ : Nat} {A B C : World} (h : Kq n₀ A B) (k : Kq n₀ B C) : Kq n₀ A C := ⟨h.below.trans k.below, fun b cs ty fr hb ht => k.rows b cs ty fr (h.rows b cs ty fr hb ht) ht⟩
theorem Kq.ofKept {n₀ : Nat} {A B : World} (k : Kept A B) (h : n₀ ≤ A.heap.size) : Kq n₀ A B := ⟨k.out.mono h, fun _ _ _ _ hb _ => k.block hb⟩
theorem kq_b {n₀ : Nat} {w : World} (hn : n₀ ≤ w.heap.size) (W : World) (l : Nat) (o o' : Obj) (hl : w.heap.size ≤ l) (h : W.heap[l]? = some o) (hc : o.isCells = false) (hw : o.isWalk = false) : Kq n₀ W (W.putObj l o') := by
  refine ⟨belowK_b hn W l o o' hl h hc hw, fun b cs ty fr hb _ => ?_⟩
  have hne : b ≠ l := by
    rintro rfl
    rw [h] at hb
    cases hb
    cases hc
  exact (World.putObj_heap_other hne).trans hb

def encs (x : En) : Array Value := #[.agg #[.string x.1, .string x.2.d, .int .i64 x.2.p, .int .i64 x.2.l]]

structure Lf (W : World) (b : Nat) (lf : Bool) (kp : Option Addr) (nk kc : Nat) (vp : Option Addr) (nv vc : Nat) (ip : Option Addr) (ni ic : Nat) (x : Nd) (bl : ByteArray) (last : Bool) : Prop where
  st : St6 W b (.bool lf) (.slice kp nk kc) (.slice vp nv vc) (.slice ip ni ic) bl last
  k : Rw W 1 kp nk kc (kcl x.ks)
  v : Rw W 3 vp nv vc (vcl x.vs)
  kx : Rx W 9 kp kc
  vx : Rx W 77 vp vc
theorem rw_kq {n₀ : Nat} {w w' : World} (o : Kq n₀ w w') {e : TypeId} (he : e = 175 ∨ e = 9 ∨ e = 77 ∨ e = 72) {sz : Nat} {p : Option Addr} {n c : Nat} {cs : List Value} (h : Rw w sz p n c cs) (hx : Rx w e p c) : Rw w' sz p n c cs := by
  refine ⟨h.len, h.le, h.cap, ?_⟩
  rcases h.out with h0 | ⟨b, off, rfl, f⟩
  · exact .inl h0
  · refine .inr ⟨b, off, rfl, fun j u hu => ?_⟩
    obtain ⟨cs', fr, hb⟩ := hx.typ b off none rfl
    rw [← f j u hu]
    exact World.cell?_of_block ((o.rows _ _ _ _ hb he).trans hb.symm)
theorem rx_kq {n₀ : Nat} {w w' : World} (o : Kq n₀ w w') {e : TypeId} (he : e = 175 ∨ e = 9 ∨ e = 77 ∨ e = 72) {p : Option Addr} {c : Nat} (h : Rx w e p c) : Rx w' e p c :=
  ⟨(fun b off ph hp => by obtain ⟨cs, fr, hb⟩ := h.typ b off ph hp; exact ⟨cs, fr, o.rows _ _ _ _ hb he⟩), h.nil⟩
theorem Lf.kq {n₀ : Nat} {W W' : World} {b : Nat} {lf : Bool} {kp : Option Addr} {nk kc : Nat} {vp : Option Addr} {nv vc : Nat} {ip : Option Addr} {ni ic : Nat} {x : Nd} {bl : ByteArray} {last : Bool} (h : Lf W b lf kp nk kc vp nv vc ip ni ic x bl last) (o : Kq n₀ W W') : Lf W' b lf kp nk kc vp nv vc ip ni ic x bl last :=
  ⟨⟨o.rows _ _ _ _ h.st.out (.inl rfl)⟩, rw_kq o (.inr (.inl rfl)) h.k h.kx, rw_kq o (.inr (.inr (.inl rfl))) h.v h.vx, rx_kq o (.inr (.inl rfl)) h.kx, rx_kq o (.inr (.inr (.inl rfl))) h.vx⟩

def TlPost (n₀ : Nat) (J Jx : List En → World → Prop) (pre D : List En) (W : World) (e : Ending) (W' : World) : Prop :=
  (e = .returned (.bool true) ∧ J (pre ++ D) W' ∧ Kq n₀ W W') ∨ (e = .returned (.bool false) ∧ ∃ q, q <+: D ∧ Jx (pre ++ q) W')

set_option maxRecDepth 100000 in
set_option maxHeartbeats 2000000 in
theorem tell_in (l n₀ Nn : Nat) (J Jx : List En → World → Prop)
    (hY : ∀ m pre x W, J pre W → pre.length < Nn → YieldAt Fence.wide m Tryz.prog l (encs x) W fun e W' =>
      (e = .returned (.bool true) ∧ J (pre ++ [x]) W' ∧ Kq n₀ W W') ∨ (e = .returned (.bool false) ∧ Jx (pre ++ [x]) W'))
    {W : World} {b : Nat} {lf : Bool} {kp : Option Addr} {nk kc : Nat} {vp : Option Addr} {nv vc : Nat} {ip : Option Addr} {ni ic : Nat} {x : Nd} {bl : ByteArray} {last : Bool} (hl : Lf W b lf kp nk kc vp nv vc ip ni ic x bl last)
    (key : ByteArray) (pre : List En) (hJ : J pre W) (hN : pre.length + ((x.ks.zip x.vs).drop (fnd key x.ks)).length ≤ Nn) (hlt : last = false → ∀ k ∈ x.ks, sl k bl = true) (hlen : x.vs.length = x.ks.length) (hfew : x.ks.length ≤ 120) (n : Nat) :
    CallsIn Fence.wide n Tryz.prog 99 #[.pointer (some ⟨b, 0, none⟩), .string key, .func (.yield l) #[] #[]] W (TlPost n₀ J Jx pre ((x.ks.zip x.vs).drop (fnd key x.ks)) W) := by
  have hnk : x.ks.length = nk := by have := hl.k.len; rwa [N.kcl_length, Nat.mul_one] at this
  have hnv : x.vs.length = nv := by have := hl.v.len; rw [N.vcl_length] at this; omega
  have hfd := N.find_walk hl.k (by omega) key
  have hf := (callsIn_wide (n := n - 1)).2 hfd
  have hle := N.fnd_le key x.ks
  have HLf : Hid (Lf W b lf kp nk kc vp nv vc ip ni ic x bl last) := hl
  have HY : Hid (∀ m pre x W, J pre W → pre.length < Nn → YieldAt Fence.wide m Tryz.prog l (encs x) W fun e W' =>
      (e = .returned (.bool true) ∧ J (pre ++ [x]) W' ∧ Kq n₀ W W') ∨ (e = .returned (.bool false) ∧ Jx (pre ++ [x]) W')) := hY
  have HLt : Hid (last = false → ∀ k ∈ x.ks, sl k bl = true) := hlt
  obtain ⟨f, hfq⟩ : ∃ f, f = fnd key x.ks := ⟨_, rfl⟩
  obtain ⟨D, hD⟩ : ∃ D, D = (x.ks.zip x.vs).drop (fnd key x.ks) := ⟨_, rfl⟩
  have HD : Hid (D = (x.ks.zip x.vs).drop f) := by rw [hfq]; exact hD
  rw [← hD] at hN ⊢
  rw [← hfq] at hf hle
  generalize isk key x.ks = bb at hf
  have hDl : D.length = nk - f := by rw [HD.out, List.length_drop, List.length_zip, hnv, ← hnv, hlen, hnk]; simp
  have HDl : Hid (D.length = nk - f) := hDl
  have HN : Hid (pre.length + D.length ≤ Nn) := hN
  have hfn : f ≤ nk := by omega
  have hnn : nv = nk := by omega
  have hn120 : nk ≤ 120 := by omega
  have HX : Hid (x.ks.length = nk ∧ x.vs.length = nk) := ⟨hnk, by omega⟩
  obtain ⟨c0, c1, c2, c3, c4, c5⟩ := cells6 hl.st.out
  subst hnn
  have HJ0 : Hid (J (pre ++ D.take 0) W ∧ Kq n₀ W W) := ⟨by simpa using hJ, Kq.refl _ _⟩
  clear hfd hl hY hlt hlen hfew hle hD hfq hnk hnv hDl hN hJ
  have hdd : ∀ k : Nat, (Fence.wide.depth.isSome = true → 1 ≤ k) := fun k h => by cases h
  refine callsIn_of_wp Tryz.func99 rfl trivial ?_ rfl
  simp only [Tryz.ntmps99, List.size_toArray, List.length_cons, List.length_nil, Nat.reduceAdd, Nat.reduceSub, Array.replicate_succ, Array.replicate_zero, List.push_toArray, List.append_toArray, List.nil_append, List.cons_append]
  gi_wp2_with (refine ⟨trivial, ?_⟩; (try refine ⟨hdd _, ?_⟩); gi_at_call 64; refine hf.mono ?_; rintro e w1 ⟨rfl, hw1⟩; rw [hw1]; clear hw1)
  gi_loopw [7] (fun p wr => ∃ j : Nat, p = .int .i64 (j : Nat) ∧ f ≤ j ∧ j ≤ nv ∧ Hid (J (pre ++ D.take (j - f)) wr ∧ Kq n₀ W wr))
    (fun p _ => nv - (intOf p).toNat)
  case atStart => exact ⟨f, rfl, Nat.le_refl _, hfn, by rw [Nat.sub_self]; exact HJ0⟩
  case round =>
    obtain ⟨j, rfl, hfj, hjn, HJ⟩ := hrel
    clear HJ0 c0 c1 c2 c3 c4 c5
    have L := HLf.out.kq HJ.out.2
    obtain ⟨c0, c1, c2, c3, c4, c5⟩ := cells6 L.st.out
    by_cases h1 : (j : Int) < (nv : Int)
    · obtain ⟨k, hk⟩ : ∃ k, x.ks[j]? = some k := ⟨_, List.getElem?_eq_getElem (by rw [HX.out.1]; omega)⟩
      obtain ⟨v, hv⟩ : ∃ v, x.vs[j]? = some v := ⟨_, List.getElem?_eq_getElem (by rw [HX.out.2]; omega)⟩
      obtain ⟨kb, ko, rfl, hck⟩ : ∃ kb ko, kp = some ⟨kb, ko, none⟩ ∧ wr.cell? ⟨kb, ko + j, none⟩ = some (.string k) := by
        rcases L.k.out with ⟨_, h0⟩ | ⟨ib, io, e, hh⟩
        · omega
        · exact ⟨ib, io, e, hh _ _ (N.kcl_at hk)⟩
      obtain ⟨vb, vo, rfl, hv0, hv1, hv2⟩ : ∃ vb vo, vp = some ⟨vb, vo, none⟩ ∧ wr.cell? ⟨vb, vo + j * 3, none⟩ = some (.string v.d) ∧ wr.cell? ⟨vb, vo + j * 3 + 1, none⟩ = some (.int .i64 v.p) ∧ wr.cell? ⟨vb, vo + j * 3 + 2, none⟩ = some (.int .i64 v.l) := by
        rcases L.v.out with ⟨_, h0⟩ | ⟨ib, io, e, hh⟩
        · omega
        · obtain ⟨a0, a1, a2⟩ := N.vcl_at hv
          exact ⟨ib, io, e, hh _ _ a0, by have := hh _ _ a1; rwa [← Nat.add_assoc] at this, by have := hh _ _ a2; rwa [← Nat.add_assoc] at this⟩
      have hDj : D[j - f]? = some (k, v) := by
        rw [HD.out, List.getElem?_drop, List.getElem?_zip_eq_some, show f + (j - f) = j by omega]
        exact ⟨hk, hv⟩
      have htk : D.take (j - f) ++ [(k, v)] = D.take (j + 1 - f) := by
        rw [show j + 1 - f = (j - f) + 1 by omega, List.take_add_one, hDj]; rfl
      have hyy := HY.out (n - 1) (pre ++ D.take (j - f)) (k, v) wr HJ.out.1 (by have := HN.out; have := HDl.out; simp; omega)
      rw [List.append_assoc, htk] at hyy
      obtain ⟨fn, tmps, assign, body, hy, hR⟩ := hyy
      dsimp only [encs] at hy
      have HLk : Hid (last = false → sl k bl = true) := fun e => HLt.out e k (List.mem_of_getElem? hk)
      have HJn : Hid (∀ W', Kq n₀ wr W' → Kq n₀ W W') := fun W' h => HJ.out.2.trans h
      clear hk hv htk hDj HJ L
      cases last with
      | true =>
        gi_wp2
        (try refine ⟨hdd _, ?_⟩)
        refine hR.mono ?_
        rintro e W3 (⟨rfl, hJ3, hk3⟩ | ⟨rfl, hJx3⟩)
        · gi_wp2
          go_roundw
          case rel => exact ⟨j + 1, by go_num, by omega, by omega, ⟨hJ3, HJn.out _ hk3⟩⟩
          case measure => simp [intOf]; omega
        · gi_wp2
          go_ret
          exact .inr ⟨rfl, _, List.take_prefix _ _, hJx3⟩
      | false =>
        have hb : Op.bytesLess k.toList bl.toList = true := HLk.out rfl
        gi_wp2
        (try refine ⟨hdd _, ?_⟩)
        refine hR.mono ?_
        rintro e W3 (⟨rfl, hJ3, hk3⟩ | ⟨rfl, hJx3⟩)
        · gi_wp2
          go_roundw
          case rel => exact ⟨j + 1, by go_num, by omega, by omega, ⟨hJ3, HJn.out _ hk3⟩⟩
          case measure => simp [intOf]; omega
        · gi_wp2
          go_ret
          exact .inr ⟨rfl, _, List.take_prefix _ _, hJx3⟩
    · obtain rfl : j = nv := by omega
      have hJe : J (pre ++ D) wr := by
        have := HJ.out.1
        rwa [List.take_of_length_le (by rw [HDl.out]; exact Nat.le_refl _)] at this
      have hK := HJ.out.2
      clear HJ L
      gi_wp2
      go_ret
      exact .inl ⟨rfl, hJe, hK⟩
attribute [local go_sem] Oper.semAt_some

def meas (Z : List Mk) : Value → Value → Nat
  | .string k, .bool true => abv k Z + 1
  | _, _ => 0

set_option maxRecDepth 100000 in
set_option maxHeartbeats 1000000 in
theorem from_in (n : Nat) (pt pe : Option Addr) (s : ByteArray) (w : World) :
    CallsIn Fence.wide n Tryz.prog 66 #[.pointer pt, .string s, .pointer pe] w fun e w' => e = .returned (.func (.func 97) #[] #[.pointer (some ⟨w.heap.size + 1, 0, none⟩), .pointer (some ⟨w.heap.size, 0, none⟩), .pointer (some ⟨w.heap.size + 1 + 1, 0, none⟩)]) ∧ w' = ((w.alloc (.cells #[.pointer pt] 72)).alloc (.cells #[.string s] 9)).alloc (.cells #[.pointer pe] 129) := by
  refine callsIn_of_wp Tryz.func66 rfl trivial ?_ rfl
  simp only [Tryz.ntmps66, List.size_toArray, List.length_cons, List.length_nil, Nat.reduceAdd, Nat.reduceSub, Array.replicate_succ, Array.replicate_zero, List.push_toArray, List.append_toArray, List.nil_append, List.cons_append]
  gi_wp2
  go_ret
  exact ⟨rfl, rfl⟩

set_option maxRecDepth 100000 in
set_option maxHeartbeats 4000000 in
theorem iter_in (n : Nat) {w₀ : World} {pt : Option Addr} {s : ByteArray} {l : List En} {Z : List Mk} (HS : Hid (∀ W key, Kept w₀ W → Calls Tryz.prog 98 #[.pointer pt, .string key] W (SkPost l Z key W))) (bt bf be l' : Nat) (J Jx : List En → World → Prop)
    (W : World) (hW : Kept w₀ W) (hJ : Hid (AbidesFrom W.heap.size J)) (ht : W.heap[bt]? = some (.cells #[.pointer pt] 72)) (hf : W.cell? ⟨bf, 0, none⟩ = some (.string s))
    (hY : Hid (∀ pre x W, J pre W → pre.length < (frm s l).length → YieldAt Fence.wide (n - 1) Tryz.prog l' (encs x) W fun e W' =>
      (e = .returned (.bool true) ∧ J (pre ++ [x]) W' ∧ Kq w₀.heap.size W W') ∨ (e = .returned (.bool false) ∧ Jx (pre ++ [x]) W'))) (h0 : J [] W) :
    CallsIn Fence.wide n Tryz.prog 97 #[.func (.yield l') #[] #[], .pointer (some ⟨bf, 0, none⟩), .pointer (some ⟨bt, 0, none⟩), .pointer (some ⟨be, 0, none⟩)] W fun e W' => (∃ v, e = .returned v) ∧
      ((∃ ys, ys = frm s l ∧ J ys W') ∨ (∃ pre, pre <+: frm s l ∧ Jx pre W')) := by
  have hdd : ∀ k : Nat, (Fence.wide.depth.isSome = true → 1 ≤ k) := fun k h => by cases h
  have H0 : Hid (J [] W ∧ Kept w₀ W ∧ W.heap[bt]? = some (.cells #[.pointer pt] 72) ∧ [] ++ (if true = true then frm s l else []) = frm s l) := ⟨h0, hW, ht, by simp⟩
  have HT : Hid (∀ (n m' : Nat) (W' : World) (b : Nat) (lf : Bool) (kp : Option Addr) (nk kc : Nat) (vp : Option Addr) (nv vc : Nat) (ip : Option Addr) (ni ic : Nat) (x : Nd) (bl : ByteArray) (last : Bool) (key : ByteArray) (pre : List En), Lf W' b lf kp nk kc vp nv vc ip ni ic x bl last → J pre W' → pre.length + ((x.ks.zip x.vs).drop (fnd key x.ks)).length ≤ (frm s l).length → (last = false → ∀ k ∈ x.ks, sl k bl = true) → x.vs.length = x.ks.length → x.ks.length ≤ 120 → CallsIn Fence.wide m' Tryz.prog 99 #[.pointer (some ⟨b, 0, none⟩), .string key, .func (.yield l') #[] #[]] W' (TlPost w₀.heap.size J Jx pre ((x.ks.zip x.vs).drop (fnd key x.ks)) W')) :=
    fun _ m' W' b lf kp nk kc vp nv vc ip ni ic x bl last key pre hl hj hN hlt hlen hfew => tell_in l' w₀.heap.size (frm s l).length J Jx (fun m pre x W hj hl => yield_any m (hY.out pre x W hj hl)) hl key pre hj hN hlt hlen hfew m'
  clear hY h0 ht
  have HW : Hid (Kept w₀ W) := hW
  clear hW
  refine callsIn_of_wp Tryz.func97 rfl trivial ?_ rfl
  simp only [Tryz.ntmps97, List.size_toArray, List.length_cons, List.length_nil, Nat.reduceAdd, Nat.reduceSub, Array.replicate_succ, Array.replicate_zero, List.push_toArray, List.append_toArray, List.nil_append, List.cons_append]
  gi_wp2
  gi_loopw [5, 6] (fun kv mv wr => ∃ (k : ByteArray) (mo : Bool) (pre : List En), kv = .string k ∧ mv = .bool mo ∧ Hid (J pre wr ∧ Kept w₀ wr ∧ wr.heap[bt]? = some (.cells #[.pointer pt] 72) ∧ pre ++ (if mo = true then frm k l else []) = frm s l))
    (fun kv mv _ => meas Z kv mv)
  case atStart => exact ⟨s, true, [], rfl, rfl, H0⟩
  case round =>
    obtain ⟨k, mo, pre, rfl, rfl, H⟩ := hrel
    clear H0
    cases mo with
    | false =>
      have hj := H.out.1
      have he : pre = frm s l := by have := H.out.2.2.2; rw [if_neg (by decide), List.append_nil] at this; exact this
      clear H
      gi_wp2
      go_end0
      exact ⟨⟨_, rfl⟩, .inl ⟨pre, he, hj⟩⟩
    | true =>
      have hc : wr.cell? ⟨bt, 0, none⟩ = some (.pointer pt) := by rw [cell_of_row _ bt 0 _ _ _ H.out.2.2.1]; rfl
      have hs := (callsIn_wide (n := n - 1)).2 (HS.out wr k H.out.2.1)
      have He : Hid (pre ++ frm k l = frm s l) := by have := H.out.2.2.2; rw [if_pos rfl] at this; exact this
      gi_wp2_with (first
        | (refine ⟨trivial, ?_⟩; (try refine ⟨hdd _, ?_⟩); gi_at_call 98; refine hs.mono ?_; clear hs; rintro e w1 ⟨lf, kp, nk, kc, vp, nv, vc, ip, ni, ic, x, bl, last, rfl, N1, ⟨up1, few1⟩, sk1, k1⟩; have k2 : Kept w1 (w1.alloc (.cells #[.bool lf, .slice kp nk kc, .slice vp nv vc, .slice ip ni ic, .string bl, .bool last] 175)) := (Kept.refl w1).alloc _; have N2 := N1.kept k2; have kw := k1.trans k2; have S2 : St6 (w1.alloc (.cells #[.bool lf, .slice kp nk kc, .slice vp nv vc, .slice ip ni ic, .string bl, .bool last] 175)) w1.heap.size (.bool lf) (.slice kp nk kc) (.slice vp nv vc) (.slice ip ni ic) bl last := ⟨heap_alloc_new w1 _⟩; have J2 : J pre (w1.alloc (.cells #[.bool lf, .slice kp nk kc, .slice vp nv vc, .slice ip ni ic, .string bl, .bool last] 175)) := hJ.out pre wr _ none H.out.1 (kw.grown none) (fun r e => (by cases e)); have FT := HT.out 0 (n - 1) _ w1.heap.size lf kp nk kc vp nv vc ip ni ic x bl last k pre ⟨S2, N2.k, N2.v, N2.kx, N2.vx⟩ J2 (by have h1 := congrArg List.length He.out; rcases sk1.hd with ⟨_, e⟩ | ⟨_, e, _⟩ <;> (rw [e] at h1; simp at h1 ⊢; omega)) sk1.lt sk1.len few1; have HSk : Hid (Sek l Z k x bl last) := sk1; have HK2 : Hid (Kept w₀ (w1.alloc (.cells #[.bool lf, .slice kp nk kc, .slice vp nv vc, .slice ip ni ic, .string bl, .bool last] 175))) := H.out.2.1.trans kw; have HB2 : Hid ((w1.alloc (.cells #[.bool lf, .slice kp nk kc, .slice vp nv vc, .slice ip ni ic, .string bl, .bool last] 175)).heap[bt]? = some (.cells #[.pointer pt] 72)) := kw.block H.out.2.2.1; clear N1 N2 sk1 up1 few1 J2 H k1 k2 kw)
        | (refine ⟨trivial, ?_⟩; (try refine ⟨hdd _, ?_⟩); gi_at_call 99; refine FT.mono ?_; clear FT; rintro e w3 (⟨rfl, J3, q3⟩ | ⟨rfl, q, hq, x3⟩)))
      · have S3 : St6 w3 w1.heap.size (.bool lf) (.slice kp nk kc) (.slice vp nv vc) (.slice ip ni ic) bl last := ⟨q3.rows _ _ _ _ S2.out (.inl rfl)⟩
        obtain ⟨_, _, _, _, d4, d5⟩ := cells6 S3.out
        have HK3 : Hid (Kept w₀ w3) := ⟨HK2.out.out.trans q3.below⟩
        have HB3 : Hid (w3.heap[bt]? = some (.cells #[.pointer pt] 72)) := q3.rows _ _ _ _ HB2.out (.inr (.inr (.inr rfl)))
        have HJ3 : Hid (∀ W', w3.grownBy W' none → J (pre ++ (x.ks.zip x.vs).drop (fnd k x.ks)) W') := fun W' hg => hJ.out _ w3 W' none J3 hg (fun r e => by cases e)
        clear J3 q3 S3 S2 HK2 HB2
        gi_region
        all_goals gi_wp2
        refine ⟨⟨bl, !last, pre ++ (x.ks.zip x.vs).drop (fnd k x.ks), rfl, rfl, ⟨HJ3.out _ ⟨rfl, rfl, rfl, Nat.le_refl _, fun _ _ _ => rfl⟩, HK3.out.drew, HB3.out, ?_⟩⟩, ?_⟩
        · rw [← He.out]
          rcases HSk.out.hd with ⟨rfl, e⟩ | ⟨rfl, e, _⟩ <;> rw [e]
          · simp
          · simp
        · rcases HSk.out.hd with ⟨rfl, _⟩ | ⟨rfl, _, h⟩
          · simp [meas]
          · simpa [meas] using h
      · have hp : pre ++ q <+: frm s l := by
          rw [← He.out]
          refine List.prefix_append_right_inj pre |>.2 (hq.trans ?_)
          rcases HSk.out.hd with ⟨_, e⟩ | ⟨_, e, _⟩ <;> rw [e]
          · exact List.prefix_refl _
          · exact List.prefix_append _ _
        gi_wp2
        refine bodyPost_ret (results_none rfl _ _ _) rfl ?_
        exact ⟨⟨_, rfl⟩, .inr ⟨_, hp, x3⟩⟩

theorem iter_stops (n : Nat) {w₀ w : World} {pt : Option Addr} {s : ByteArray} {l : List En} {Z : List Mk} (HS : Hid (∀ W key, Kept w₀ W → Calls Tryz.prog 98 #[.pointer pt, .string key] W (SkPost l Z key W))) (hw : Kept w₀ w) (bt bf be : Nat)
    (ht : w.heap[bt]? = some (.cells #[.pointer pt] 72)) (hf : w.heap[bf]? = some (.cells #[.string s] 9)) :
    SeqStopsK Fence.wide n Tryz.prog 97 #[.pointer (some ⟨bf, 0, none⟩), .pointer (some ⟨bt, 0, none⟩), .pointer (some ⟨be, 0, none⟩)] encs (Kq w₀.heap.size) (fun ys => ys = frm s l) (fun pre => pre <+: frm s l) (frm s l).length w := fun l' J Jx W hW hJ _ hY h0 => by
  have kW : Kept w W := ⟨hW⟩
  exact iter_in n HS bt bf be l' J Jx W (hw.trans kW) hJ (kW.block ht) (kW.cell (by rw [cell_of_row _ bf 0 _ _ _ hf]; rfl)) hY h0
open N (C4)

theorem cells_stay {W W' : World} {row : Option Nat} (hg : W.grownBy W' row) (hr : ∀ r, row = some r → ∃ o : Obj, W.heap[r]? = some o ∧ o.isCells = false) {b : Nat} {cs : Array Value} {t : TypeId} {fr : Nat × Nat} (h : W.heap[b]? = some (.cells cs t fr)) : W'.heap[b]? = some (.cells cs t fr) := by
  refine (hg.block b (Array.getElem?_eq_some_iff.1 h).1 (fun e => ?_)).trans h
  obtain ⟨o, ho, hc⟩ := hr b e.symm
  rw [h] at ho; cases ho; cases hc
theorem own_stay {W W' : World} {row : Option Nat} (hg : W.grownBy W' row) (hr : ∀ r, row = some r → ∃ o : Obj, W.heap[r]? = some o ∧ o.isCells = false) {B : Nat} {e : TypeId} {sz : Nat} {p : Option Addr} {n c : Nat} {cs : List Value} (k : N.Own W B e sz p n c cs) : N.Own W' B e sz p n c cs := by
  refine ⟨k.out.1, k.out.2.imp id ?_⟩
  rintro ⟨g, cap, cur, a, b, hg', r⟩
  exact ⟨g, cap, cur, a, b, cells_stay hg hr hg', r⟩
theorem below_stay {n B : Nat} {w W W' : World} {row : Option Nat} (hb : Below n w W) (hn : n ≤ w.heap.size) (hg : W.grownBy W' row) (hr : ∀ r, row = some r → B ≤ r) (hB : n ≤ B) : Below n w W' :=
  hb.trans ⟨hg.os, hg.tape, hg.output, hg.size, fun i hi => hg.block i (Nat.lt_of_lt_of_le hi (Nat.le_trans hn hb.size)) (fun e => by have := hr i e.symm; omega)⟩

def pcl1 (x : En) : List Value := [.string x.1, .string x.2.d, .int .i64 x.2.p, .int .i64 x.2.l]
def pcl (l : List En) : List Value := l.flatMap pcl1
theorem pcl_snoc (l : List En) (x : En) : pcl (l ++ [x]) = pcl l ++ pcl1 x := by simp [pcl]
structure Rg (w W : World) (tz : ByteArray) (most : Nat) (q : Option Addr) (c : Nat) (G : List En) : Prop where
  bto : W.heap[w.heap.size]? = some (.cells #[.string tz] 9)
  bmost : W.heap[w.heap.size + 1]? = some (.cells #[.int .i64 (most : Nat)] 3)
  bp : W.heap[w.heap.size + 1 + 1]? = some (.cells #[.slice q G.length c] 82)
  be : W.heap[w.heap.size + 1 + 1 + 1]? = some (.cells #[.int .i64 0] 24)
  own : N.Own W w.heap.size 86 4 q G.length c (pcl G)
  low : Below w.heap.size w W
theorem Rg.stay {w W W' : World} {tz : ByteArray} {most : Nat} {q : Option Addr} {c : Nat} {G : List En} {B : Nat} {row : Option Nat} (h : Rg w W tz most q c G) (hg : W.grownBy W' row) (hr : ∀ r, row = some r → B ≤ r ∧ ∃ o : Obj, W.heap[r]? = some o ∧ o.isCells = false) (hB : w.heap.size ≤ B) : Rg w W' tz most q c G :=
  have hr2 : ∀ r, row = some r → ∃ o : Obj, W.heap[r]? = some o ∧ o.isCells = false := fun r e => (hr r e).2
  ⟨cells_stay hg hr2 h.bto, cells_stay hg hr2 h.bmost, cells_stay hg hr2 h.bp, cells_stay hg hr2 h.be, own_stay hg hr2 h.own, below_stay h.low (Nat.le_refl _) hg (fun r e => (hr r e).1) hB⟩
theorem Rg.kept {w W W' : World} {tz : ByteArray} {most : Nat} {q : Option Addr} {c : Nat} {G : List En} (h : Rg w W tz most q c G) (k : Kept W W') : Rg w W' tz most q c G := h.stay (B := w.heap.size) (k.grown none) (fun r e => by cases e) (Nat.le_refl _)

theorem info86 : (Tryz.prog.info? 86).map (fun i => (i.zero, i.size, i.bytes)) = some (some (.agg #[.string ⟨#[]⟩, .string ⟨#[]⟩, .int .i64 0, .int .i64 0]), 4, 48) := by kernel_rfl
theorem own_blk4 {W : World} {B : Nat} {e : TypeId} {sz : Nat} {q : Option Addr} {k c : Nat} {cs : List Value} (o : N.Own W B e sz q k c cs) : ∀ b, (Value.slice q k c).ownBlock = some b → B ≤ b ∧ ∃ cs fr, W.heap[b]? = some (.cells cs e fr) := by
  intro b hb
  rcases o.out.2 with ⟨h0, _⟩ | ⟨g, cap, cur, h0, h1, h2, _⟩
  · rw [h0] at hb; simp [Value.ownBlock] at hb
  · rw [h0] at hb; simp [Value.ownBlock] at hb
    subst hb
    exact ⟨h1, _, _, h2⟩

theorem Rg.more {w W w1 : World} {tz : ByteArray} {most : Nat} {q q1 : Option Addr} {c c1 : Nat} {G : List En} {x : En} {tmp : Obj} (h : Rg w W tz most q c G)
    (o1 : w1.ownsRow w.heap.size 86 4 (.slice q1 (G.length + 1) c1) (G.length + 1) (pcl G ++ pcl1 x)) (g1 : (W.alloc tmp).grownBy w1 (Value.slice q G.length c).ownBlock) :
    (w1.heap[w.heap.size + 1 + 1]? = some (.cells #[.slice q G.length c] 82) ∧ w1.heap[w.heap.size + 1]? = some (.cells #[.int .i64 (most : Nat)] 3)) ∧
    Rg w (w1.setCell ⟨w.heap.size + 1 + 1, 0, none⟩ (.slice q1 (G.length + 1) c1)) tz most q1 c1 (G ++ [x]) ∧ KeepsOthers W (w1.setCell ⟨w.heap.size + 1 + 1, 0, none⟩ (.slice q1 (G.length + 1) c1)) ∧ Kq w.heap.size W (w1.setCell ⟨w.heap.size + 1 + 1, 0, none⟩ (.slice q1 (G.length + 1) c1)) := by
  have k0 : Kept W (W.alloc tmp) := (Kept.refl W).alloc tmp
  have h' := h.kept k0
  have ob := own_blk4 h'.own
  have st : ∀ {b : Nat} {cs : Array Value} {t : TypeId} {fr : Nat × Nat}, (W.alloc tmp).heap[b]? = some (.cells cs t fr) → t ≠ 86 → w1.heap[b]? = some (.cells cs t fr) := by
    intro b cs t fr hb ht
    refine (g1.block b (Array.getElem?_eq_some_iff.1 hb).1 (fun e => ?_)).trans hb
    obtain ⟨_, cs', fr', h2⟩ := ob b e.symm
    rw [hb] at h2
    injection h2 with h2
    injection h2 with _ h2
    exact ht h2
  have p1 := st h'.bp (by decide)
  have s1 : (w1.setCell ⟨w.heap.size + 1 + 1, 0, none⟩ (.slice q1 (G.length + 1) c1)).heap[w.heap.size + 1 + 1]? = some (.cells #[.slice q1 (G.length + 1) c1] 82) := by rw [heap_setCell_same _ _ 0 _ _ _ p1]; rfl
  have oth : ∀ k, k ≠ w.heap.size + 1 + 1 → (w1.setCell ⟨w.heap.size + 1 + 1, 0, none⟩ (.slice q1 (G.length + 1) c1)).heap[k]? = w1.heap[k]? := fun k hk => heap_setCell_other _ ⟨w.heap.size + 1 + 1, 0, none⟩ k _ hk
  have low1 : Below w.heap.size W w1 := k0.out.mono h.low.size |>.trans ⟨g1.os, g1.tape, g1.output, g1.size, fun i hi => g1.block i (Nat.lt_of_lt_of_le hi (Nat.le_trans h.low.size k0.size)) (fun e => by have := (ob i e.symm).1; omega)⟩
  have low2 : Below w.heap.size W (w1.setCell ⟨w.heap.size + 1 + 1, 0, none⟩ (.slice q1 (G.length + 1) c1)) := low1.setCell (by show w.heap.size ≤ w.heap.size + 1 + 1; omega) _
  refine ⟨⟨p1, st h'.bmost (by decide)⟩, ⟨(oth _ (by omega)).trans (st h'.bto (by decide)), (oth _ (by omega)).trans (st h'.bmost (by decide)), ?_, (oth _ (by omega)).trans (st h'.be (by decide)), ?_, h.low.trans low2⟩, ?_, low2, ?_⟩
  · rw [s1, List.length_append]; rfl
  · rw [pcl_snoc, List.length_append]
    refine ⟨o1.1, o1.2.imp id ?_⟩
    rintro ⟨g, cap, cur, a, b, hg', r⟩
    refine ⟨g, cap, cur, a, b, (oth g (fun e => ?_)).trans hg', r⟩
    subst e
    rw [p1] at hg'
    injection hg' with hg'
    injection hg' with _ hg'
    exact absurd hg' (by decide)
  · refine ((KeepsOthers.alloc W tmp).trans (KeepsOthers.of_grownBy g1 fun j o ej hj => ?_)).trans (KeepsOthers.setCell _ _ _)
    obtain ⟨_, cs', fr', h2⟩ := ob j ej
    rw [h2] at hj; cases hj; rfl
  · intro b cs ty fr hb ht
    have hb1 := st (k0.block hb) (by rcases ht with rfl | rfl | rfl | rfl <;> decide)
    refine (oth b (fun e => ?_)).trans hb1
    subst e
    rw [p1] at hb1
    injection hb1 with hb1
    injection hb1 with _ hb1
    rcases ht with rfl | rfl | rfl | rfl <;> exact absurd hb1 (by decide)

def Fin (tz : ByteArray) (most : Nat) (pre G : List En) : Prop :=
  (∃ x, pre = G ++ [x] ∧ sl x.1 tz = false ∧ (∀ e ∈ G, sl e.1 tz = true) ∧ G.length ≤ most) ∨ (G = pre ∧ pre.length = most ∧ ∀ e ∈ pre, sl e.1 tz = true)
def rng (s tz : ByteArray) (most : Nat) (l : List En) : List En := ((frm s l).takeWhile fun e => sl e.1 tz).take most
theorem takeWhile_all {p : En → Bool} : ∀ (A B : List En), (∀ e ∈ A, p e = true) → (A ++ B).takeWhile p = A ++ B.takeWhile p
  | [], _, _ => rfl
  | a :: A, B, h => by
    rw [List.cons_append, List.takeWhile_cons_of_pos (h a (by simp)), takeWhile_all A B (fun e he => h e (by simp [he])), List.cons_append]
theorem Fin.rng {s tz : ByteArray} {most : Nat} {pre G l : List En} (h : Fin tz most pre G) (hp : pre <+: frm s l) : G = rng s tz most l := by
  obtain ⟨t, ht⟩ := hp
  unfold T.rng
  rw [← ht]
  rcases h with ⟨x, rfl, hx, hG, hl⟩ | ⟨rfl, hl, hG⟩
  · rw [List.append_assoc, takeWhile_all G _ hG, List.cons_append, List.takeWhile_cons_of_neg (by rw [hx]; decide), List.append_nil, List.take_of_length_le hl]
  · rw [takeWhile_all G _ hG, ← hl, List.take_left]
theorem rng_all {s tz : ByteArray} {most : Nat} {l : List En} (hG : ∀ e ∈ frm s l, sl e.1 tz = true) (hl : (frm s l).length ≤ most) : frm s l = rng s tz most l := by
  unfold T.rng
  have := takeWhile_all (p := fun e => sl e.1 tz) (frm s l) [] hG
  rw [List.append_nil] at this
  rw [this, List.takeWhile_nil, List.append_nil, List.take_of_length_le hl]
attribute [local go_sem] Oper.semAt_some

theorem pair_cells (w : World) (x : En) (t : TypeId) : ∀ j u, (pcl1 x)[j]? = some u → (w.alloc (.cells #[.string x.1, .string x.2.d, .int .i64 x.2.p, .int .i64 x.2.l] t)).cell? ((⟨w.heap.size, 0, none⟩ : Addr).add j) = some u := by
  intro j u hj
  rw [Addr.add_lit, Nat.zero_add, cell_of_row _ _ _ _ _ _ (heap_alloc_new w (.cells #[.string x.1, .string x.2.d, .int .i64 x.2.p, .int .i64 x.2.l] t))]
  simpa [pcl1] using hj
theorem pcl1_one (x : En) : ∀ u ∈ pcl1 x, u.oneCell' = true := by
  intro u hu; simp [pcl1] at hu; rcases hu with rfl | rfl | rfl | rfl <;> rfl
theorem shape_of {W : World} {B : Nat} {e : TypeId} {sz : Nat} {v : Value} {k : Nat} {cs : List Value} (h : W.ownsRow B e sz v k cs) : ∃ p c, v = .slice p k c := by
  rcases h.2 with ⟨rfl, rfl⟩ | ⟨g, cap, cur, rfl, _⟩
  · exact ⟨_, _, rfl⟩
  · exact ⟨_, _, rfl⟩

set_option maxRecDepth 100000 in
set_option maxHeartbeats 4000000 in
theorem range_some {w : World} {pt : Option Addr} {s tz : ByteArray} {most : Nat} {l : List En} {Z : List Mk} (HS : Hid (∀ W key, Kept w W → Calls Tryz.prog 98 #[.pointer pt, .string key] W (SkPost l Z key W))) (hm : most ≤ 1000) (h0 : 0 < most) :
    Calls Tryz.prog 42 #[.pointer pt, .string s, .string tz, .int .i64 (most : Nat)] w fun e w' => ∃ q n c, e = .returned (.tuple #[.slice q n c, .int .i64 0]) ∧ Rw w' 4 q n c (pcl (rng s tz most l)) ∧ Kept w w' := by
  obtain ⟨i0, hi0, hz0, hz1, hz2⟩ := info_parts info86
  refine (callsIn_wide (n := 5)).1 ?_
  have hdd : ∀ k : Nat, (Fence.wide.depth.isSome = true → 1 ≤ k) := fun k h => by cases h
  have hm0 : ¬ ((most : Int) ≤ 0) := by omega
  refine callsIn_of_wp_marks Tryz.func42 rfl trivial ?_ rfl
  simp only [Tryz.ntmps42, List.size_toArray, List.length_cons, List.length_nil, Nat.reduceAdd, Nat.reduceSub, Array.replicate_succ, Array.replicate_zero, List.push_toArray, List.append_toArray, List.nil_append, List.cons_append]
  gi_wp2_with (refine ⟨trivial, ?_⟩; (try refine ⟨hdd _, ?_⟩); gi_at_call 66; refine (from_in _ _ _ _ _).mono ?_; rintro e w' ⟨rfl, rfl⟩)
  have sz := N.size_alloc w (.cells #[.string tz] 9)
  obtain ⟨W0, hW0⟩ : ∃ W0, (((((((w.alloc (.cells #[.string tz] 9)).alloc (.cells #[.int .i64 (most : Nat)] 3)).alloc (.cells #[.slice none 0 0] 82)).alloc (.cells #[.int .i64 0] 24)).alloc (.cells #[.pointer pt] 72)).alloc (.cells #[.string s] 9)).alloc (.cells #[.pointer (some ⟨w.heap.size + 1 + 1 + 1, 0, none⟩)] 129)) = W0 := ⟨_, rfl⟩
  have hsz : W0.heap.size = w.heap.size + 1 + 1 + 1 + 1 + 1 + 1 + 1 := by rw [← hW0]; simp
  have k1 : Kept w (w.alloc (.cells #[.string tz] 9)) := (Kept.refl w).alloc _
  have kW : Kept w W0 := by rw [← hW0]; exact ((((((k1.alloc _).alloc _).alloc _).alloc _).alloc _).alloc _)
  have b0 : W0.heap[w.heap.size]? = some (.cells #[.string tz] 9) := by
    rw [← hW0]
    exact (((((((Kept.refl _).alloc _).alloc _).alloc _).alloc _).alloc _).alloc _).block (heap_alloc_new w _)
  have b1 : W0.heap[w.heap.size + 1]? = some (.cells #[.int .i64 (most : Nat)] 3) := by
    rw [← hW0]
    exact ((((((Kept.refl _).alloc _).alloc _).alloc _).alloc _).alloc _).block (by have := heap_alloc_new (w.alloc (.cells #[.string tz] 9)) (.cells #[.int .i64 (most : Nat)] 3); rwa [N.size_alloc] at this)
  have b2 : W0.heap[w.heap.size + 1 + 1]? = some (.cells #[.slice none 0 0] 82) := by
    rw [← hW0]
    exact (((((Kept.refl _).alloc _).alloc _).alloc _).alloc _).block (by have := heap_alloc_new ((w.alloc (.cells #[.string tz] 9)).alloc (.cells #[.int .i64 (most : Nat)] 3)) (.cells #[.slice none 0 0] 82); rwa [N.size_alloc, N.size_alloc] at this)
  have b3 : W0.heap[w.heap.size + 1 + 1 + 1]? = some (.cells #[.int .i64 0] 24) := by
    rw [← hW0]
    exact ((((Kept.refl _).alloc _).alloc _).alloc _).block (by have := heap_alloc_new (((w.alloc (.cells #[.string tz] 9)).alloc (.cells #[.int .i64 (most : Nat)] 3)).alloc (.cells #[.slice none 0 0] 82)) (.cells #[.int .i64 0] 24); rwa [N.size_alloc, N.size_alloc, N.size_alloc] at this)
  have b4 : W0.heap[w.heap.size + 1 + 1 + 1 + 1]? = some (.cells #[.pointer pt] 72) := by
    rw [← hW0]
    exact (((Kept.refl _).alloc _).alloc _).block (by have := heap_alloc_new ((((w.alloc (.cells #[.string tz] 9)).alloc (.cells #[.int .i64 (most : Nat)] 3)).alloc (.cells #[.slice none 0 0] 82)).alloc (.cells #[.int .i64 0] 24)) (.cells #[.pointer pt] 72); rwa [N.size_alloc, N.size_alloc, N.size_alloc, N.size_alloc] at this)
  have b5 : W0.heap[w.heap.size + 1 + 1 + 1 + 1 + 1]? = some (.cells #[.string s] 9) := by
    rw [← hW0]
    exact ((Kept.refl _).alloc _).block (by have := heap_alloc_new (((((w.alloc (.cells #[.string tz] 9)).alloc (.cells #[.int .i64 (most : Nat)] 3)).alloc (.cells #[.slice none 0 0] 82)).alloc (.cells #[.int .i64 0] 24)).alloc (.cells #[.pointer pt] 72)) (.cells #[.string s] 9); rwa [N.size_alloc, N.size_alloc, N.size_alloc, N.size_alloc, N.size_alloc] at this)
  rw [hW0]
  have R0 : Rg w W0 tz most none 0 [] := ⟨b0, b1, b2, b3, own_nil _ _ _ _, kW.out⟩
  have hle : w.heap.size ≤ W0.heap.size := kW.size
  have hst := iter_stops 4 HS kW (w.heap.size + 1 + 1 + 1 + 1) (w.heap.size + 1 + 1 + 1 + 1 + 1) (w.heap.size + 1 + 1 + 1 + 1 + 1 + 1) b4 b5
  clear hW0 b0 b1 b2 b3 b4 b5 k1 sz
  refine wpIn_rangeFunc_ownH rfl (by omega) (gf := 97) (lb := #[.pointer (some ⟨w.heap.size + 1 + 1 + 1 + 1 + 1, 0, none⟩), .pointer (some ⟨w.heap.size + 1 + 1 + 1 + 1, 0, none⟩), .pointer (some ⟨w.heap.size + 1 + 1 + 1 + 1 + 1 + 1, 0, none⟩)]) rfl trivial (enters_of Tryz.func97 (by kernel_rfl) rfl)
    hst (fun h k => h.trans k) (kq_b hle) (Below.refl _ _) (fun _ => rfl)
    (fun pre W => (∃ q c, Rg w W tz most q c pre) ∧ (∀ e ∈ pre, sl e.1 tz = true) ∧ pre.length < most)
    (fun c pre W => c = .exit 0 ∧ ∃ q cc G, Rg w W tz most q cc G ∧ Fin tz most pre G)
    (fun pre W W' row hs hg hr => ⟨(by obtain ⟨q, c, h⟩ := hs.1; exact ⟨q, c, h.stay hg hr hle⟩), hs.2⟩)
    (fun c pre W W' row hs hg hr => ⟨hs.1, (by obtain ⟨q, c, G, h, f⟩ := hs.2; exact ⟨q, c, G, h.stay hg hr hle, f⟩)⟩)
    ⟨⟨none, 0, R0⟩, (fun e he => by cases he), h0⟩
    (fun x a' W => ∃ Bx, C4 W Bx 86 (.string x.1) (.string x.2.d) (.int .i64 x.2.p) (.int .i64 x.2.l) ∧ a' = { tmps := #[.pointer pt, .string s, .string tz, .int .i64 (most : Nat), undef, undef, .pointer (some ⟨w.heap.size, 0, none⟩), .pointer (some ⟨w.heap.size + 1, 0, none⟩), .slice none 0 0, .int .i64 0, .pointer (some ⟨w.heap.size + 1 + 1, 0, none⟩), .pointer (some ⟨w.heap.size + 1 + 1 + 1, 0, none⟩), .pointer (some ⟨Bx, 0, none⟩), .int .i64 (most : Nat), .bool false, .pointer pt, .string s, .func (.func 97) #[] #[.pointer (some ⟨w.heap.size + 1 + 1 + 1 + 1 + 1, 0, none⟩), .pointer (some ⟨w.heap.size + 1 + 1 + 1 + 1, 0, none⟩), .pointer (some ⟨w.heap.size + 1 + 1 + 1 + 1 + 1 + 1, 0, none⟩)], .agg #[.string x.1, .string x.2.d, .int .i64 x.2.p, .int .i64 x.2.l], undef, undef, undef, undef, undef, undef, undef, undef, undef, undef, undef, undef, undef, undef, undef, undef], defers := [] })
    (fun x a' u W W' row hs hg hr => by obtain ⟨Bx, h, e⟩ := hs; exact ⟨Bx, ⟨cells_stay hg (fun r e => (hr r e).2) h.out⟩, e⟩)
    ?assign ?body ?done ?stop
  case assign =>
    rintro l' pre x W K ⟨⟨q, c, hR⟩, hall, hlen⟩ hK
    have ka : Kept W (W.alloc (.cells #[.string x.1, .string x.2.d, .int .i64 x.2.p, .int .i64 x.2.l] 86)) := (Kept.refl W).alloc _
    have hK2 := fun a' => hK a' (W.alloc (.cells #[.string x.1, .string x.2.d, .int .i64 x.2.p, .int .i64 x.2.l] 86)) ((KeepsOthers.alloc W _).from _) (Kq.ofKept ka hR.low.size) ⟨⟨q, c, hR.kept ka⟩, hall, hlen⟩
    have hX := C4.alloc W 86 (.string x.1) (.string x.2.d) (.int .i64 x.2.p) (.int .i64 x.2.l)
    clear hK
    dsimp only [encs]
    gi_wp2
  case body =>
    rintro l' pre x a' W hl' _ ⟨⟨q, c, hR⟩, hall, hlen⟩ ⟨Bx, hX, rfl⟩ _
    obtain ⟨x0, x1, x2, x3⟩ := hX.cs
    have y0 : W.cell? ⟨w.heap.size, 0, none⟩ = some (.string tz) := by rw [cell_of_row _ _ 0 _ _ _ hR.bto]; rfl
    have y2 : W.cell? ⟨w.heap.size + 1 + 1, 0, none⟩ = some (.slice q pre.length c) := by rw [cell_of_row _ _ 0 _ _ _ hR.bp]; rfl
    have ka : Kept W (W.alloc (.cells #[.string x.1, .string x.2.d, .int .i64 x.2.p, .int .i64 x.2.l] 86)) := (Kept.refl W).alloc _
    have OA := hR.own.kept ka
    have hz4 := pair_cells W x 86
    have hBE : w.heap.size ≤ (W.alloc (.cells #[.string x.1, .string x.2.d, .int .i64 x.2.p, .int .i64 x.2.l] 86)).heap.size := Nat.le_trans hR.low.size ka.size
    have HA : Hid (∀ e ∈ pre, sl e.1 tz = true) := hall
    clear hall
    by_cases hs : Op.bytesLess x.1.toList tz.toList = true
    · have HA2 : Hid (∀ e ∈ pre ++ [x], sl e.1 tz = true) := fun e he => by
        rcases List.mem_append.1 he with h | h
        · exact HA.out e h
        · simp at h; subst h; exact hs
      by_cases hq : pre.length + 1 = most
      · have hq2 : ((pre.length : Int) + 1 = (most : Int)) := by omega
        have HQ : Hid (pre.length + 1 = most) := hq
        clear hq
        gi_wp2_with (gi_at_builtin; refine wpListIn_append_own _ rfl _ _ 82 rfl w.heap.size 86 i0 _ 4 48 Tryz.underlying82 hi0 hz0 hz1 hz2 rfl (by decide) (.slice q pre.length c) pre.length (pcl pre) rfl OA.out ⟨W.heap.size, 0, none⟩ 1 1 (pcl1 x) rfl rfl hz4 (pcl1_one x) (by unfold maxLen; omega) (by omega) hBE ?_; intro v' w1 o1 g1 _; obtain ⟨q1, c1, rfl⟩ := shape_of o1; obtain ⟨⟨p1, m1⟩, R1, ko, kq⟩ := hR.more o1 g1; have z0 : w1.cell? ⟨w.heap.size + 1 + 1, 0, none⟩ = some (.slice q pre.length c) := (by rw [cell_of_row _ _ 0 _ _ _ p1]; rfl); have z1 : w1.frozen? ⟨w.heap.size + 1 + 1, 0, none⟩ = false := frozen_of_row _ _ 0 _ _ p1; have u0 : (w1.setCell ⟨w.heap.size + 1 + 1, 0, none⟩ (.slice q1 (pre.length + 1) c1)).cell? ⟨w.heap.size + 1 + 1, 0, none⟩ = some (.slice q1 (pre.length + 1) c1) := (by rw [cell_of_row _ _ 0 _ _ _ R1.bp, List.length_append]; rfl); have u1 : (w1.setCell ⟨w.heap.size + 1 + 1, 0, none⟩ (.slice q1 (pre.length + 1) c1)).cell? ⟨w.heap.size + 1, 0, none⟩ = some (.int .i64 (most : Nat)) := (by rw [cell_of_row _ _ 0 _ _ _ R1.bmost]; rfl); clear o1 g1 p1 m1)
        exact ⟨ko.from _, rfl, q1, c1, pre ++ [x], R1, .inr ⟨rfl, by rw [List.length_append]; exact HQ.out, HA2.out⟩⟩
      · have hq2 : ¬ ((pre.length : Int) + 1 = (most : Int)) := by omega
        have HQ : Hid (¬ pre.length + 1 = most) := hq
        clear hq
        gi_wp2_with (gi_at_builtin; refine wpListIn_append_own _ rfl _ _ 82 rfl w.heap.size 86 i0 _ 4 48 Tryz.underlying82 hi0 hz0 hz1 hz2 rfl (by decide) (.slice q pre.length c) pre.length (pcl pre) rfl OA.out ⟨W.heap.size, 0, none⟩ 1 1 (pcl1 x) rfl rfl hz4 (pcl1_one x) (by unfold maxLen; omega) (by omega) hBE ?_; intro v' w1 o1 g1 _; obtain ⟨q1, c1, rfl⟩ := shape_of o1; obtain ⟨⟨p1, m1⟩, R1, ko, kq⟩ := hR.more o1 g1; have z0 : w1.cell? ⟨w.heap.size + 1 + 1, 0, none⟩ = some (.slice q pre.length c) := (by rw [cell_of_row _ _ 0 _ _ _ p1]; rfl); have z1 : w1.frozen? ⟨w.heap.size + 1 + 1, 0, none⟩ = false := frozen_of_row _ _ 0 _ _ p1; have u0 : (w1.setCell ⟨w.heap.size + 1 + 1, 0, none⟩ (.slice q1 (pre.length + 1) c1)).cell? ⟨w.heap.size + 1 + 1, 0, none⟩ = some (.slice q1 (pre.length + 1) c1) := (by rw [cell_of_row _ _ 0 _ _ _ R1.bp, List.length_append]; rfl); have u1 : (w1.setCell ⟨w.heap.size + 1 + 1, 0, none⟩ (.slice q1 (pre.length + 1) c1)).cell? ⟨w.heap.size + 1, 0, none⟩ = some (.int .i64 (most : Nat)) := (by rw [cell_of_row _ _ 0 _ _ _ R1.bmost]; rfl); clear o1 g1 p1 m1)
        exact ⟨ko.from _, kq, ⟨q1, c1, R1⟩, HA2.out, by rw [List.length_append, List.length_singleton]; have := HQ.out; omega⟩
    · have hs2 : Op.bytesLess x.1.toList tz.toList = false := by simpa using hs
      clear hs
      gi_wp2
      exact ⟨KeepsFrom.refl _ _, rfl, q, c, pre, hR, .inl ⟨x, rfl, hs2, HA.out, Nat.le_of_lt hlen⟩⟩
  case done =>
    rintro D xs W hD rfl ⟨⟨q, c, hR⟩, hall, hlen⟩ hK
    have y2 : W.cell? ⟨w.heap.size + 1 + 1, 0, none⟩ = some (.slice q (frm s l).length c) := by rw [cell_of_row _ _ 0 _ _ _ hR.bp]; rfl
    have y3 : W.cell? ⟨w.heap.size + 1 + 1 + 1, 0, none⟩ = some (.int .i64 0) := by rw [cell_of_row _ _ 0 _ _ _ hR.be]; rfl
    have R5 := hR.stay (B := W0.heap.size) (grownBy_putObj' W D (.deferred none)) (fun r e => by cases e; exact ⟨hD, _, hK, rfl⟩) hle
    gi_wp2
    have e := rng_all hall (Nat.le_of_lt hlen)
    refine ⟨by simp, .inl ⟨_, _, rfl, run_takeDeferred hK, ?_⟩⟩
    refine ⟨_, results_tmp2 rfl _ _ _, q, (frm s l).length, c, rfl, ?_, ⟨R5.low⟩⟩
    have := R5.own.rw
    rw [← e]; exact this
  case stop =>
    rintro D c pre W hD hp ⟨rfl, q, cc, G, hR, hF⟩ hK
    have y2 : W.cell? ⟨w.heap.size + 1 + 1, 0, none⟩ = some (.slice q G.length cc) := by rw [cell_of_row _ _ 0 _ _ _ hR.bp]; rfl
    have y3 : W.cell? ⟨w.heap.size + 1 + 1 + 1, 0, none⟩ = some (.int .i64 0) := by rw [cell_of_row _ _ 0 _ _ _ hR.be]; rfl
    have R5 := hR.stay (B := W0.heap.size) (grownBy_putObj' W D (.deferred none)) (fun r e => by cases e; exact ⟨hD, _, hK, rfl⟩) hle
    gi_wp2
    have e := hF.rng hp
    refine ⟨by simp, .inl ⟨_, _, rfl, run_takeDeferred hK, ?_⟩⟩
    refine ⟨_, results_tmp2 rfl _ _ _, q, G.length, cc, rfl, ?_, ⟨R5.low⟩⟩
    have := R5.own.rw
    rw [← e]; exact this

set_option maxRecDepth 100000 in
set_option maxHeartbeats 1000000 in
theorem range_zero {w : World} {pt : Option Addr} {s tz : ByteArray} : Calls Tryz.prog 42 #[.pointer pt, .string s, .string tz, .int .i64 0] w fun e w' => e = .returned (.tuple #[.slice none 0 0, .int .i64 0]) ∧ Kept w w' := by
  have k : Kept w ((w.alloc (.cells #[.string tz] 9)).alloc (.cells #[.int .i64 0] 3)) := ((Kept.refl w).alloc _).alloc _
  go_enter Tryz.func42, Tryz.ntmps42
  go_wp2
  go_ret2
  exact ⟨rfl, k⟩
theorem range_walk {w : World} {pt : Option Addr} {s tz : ByteArray} {most : Nat} {l : List En} {Z : List Mk} (HS : Hid (∀ W key, Kept w W → Calls Tryz.prog 98 #[.pointer pt, .string key] W (SkPost l Z key W))) (hm : most ≤ 1000) :
    Calls Tryz.prog 42 #[.pointer pt, .string s, .string tz, .int .i64 (most : Nat)] w fun e w' => ∃ q n c, e = .returned (.tuple #[.slice q n c, .int .i64 0]) ∧ Rw w' 4 q n c (pcl (rng s tz most l)) ∧ Kept w w' := by
  rcases Nat.eq_zero_or_pos most with rfl | h0
  · refine range_zero.mono ?_
    rintro e w' ⟨rfl, k⟩
    exact ⟨none, 0, 0, rfl, ⟨by simp [rng, pcl], Nat.le_refl _, Nat.zero_le _, .inl ⟨rfl, rfl⟩⟩, k⟩
  · exact range_some HS hm h0
end Go.Proofs.YtifeihnhkbagpaaGreatDoor.T