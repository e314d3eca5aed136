/- Parts of a slice; the walk of Part. Conditions: the node may be. -/
import Derived.Test.YtgcfollelefmcaaPC
namespace Go.Proofs.Ytgcfollelefmcaa
open Go.ChangeShapes Go.WideShapes Go.ChangeAt Go.RowKit

theorem Rw.take {w : World} {sz : Nat} {p : Option Addr} {n c : Nat} {cs : List Value} (h : Rw w sz p n c cs) (k : Nat) (hk : k ≤ n) : Rw w sz p k c (cs.take (k * sz)) := by
  refine ⟨?_, Nat.le_trans hk h.le, h.cap, ?_⟩
  · rw [List.length_take, h.len]
    exact Nat.min_eq_left (Nat.mul_le_mul_right _ hk)
  · rcases h.out with ⟨e1, e2⟩ | ⟨b, o, e1, e2⟩
    · exact .inl ⟨e1, by omega⟩
    · refine .inr ⟨b, o, e1, fun j u hu => e2 j u ?_⟩
      rw [List.getElem?_take] at hu
      split at hu
      · exact hu
      · cases hu
theorem row_drop {w : World} {sz b o n c : Nat} {cs : List Value} (hc : ∀ j u, cs[j]? = some u → w.cell? ⟨b, o + j, none⟩ = some u) (hl : cs.length = n * sz) (hn : n ≤ c) (hm : c ≤ maxLen) (k : Nat) (hk : k ≤ n) : Rw w sz (some ⟨b, o + k * sz, none⟩) (n - k) (c - k) (cs.drop (k * sz)) := by
  refine ⟨?_, by omega, by omega, .inr ⟨_, _, rfl, fun j u hu => ?_⟩⟩
  · rw [List.length_drop, hl, Nat.sub_mul]
  · rw [List.getElem?_drop] at hu
    rw [Nat.add_assoc]
    exact hc _ u hu
theorem kcl_take (ks : List ByteArray) (m : Nat) : kcl (ks.take m) = (kcl ks).take (m * 1) := by
  unfold kcl; rw [Nat.mul_one, List.map_take]
theorem kcl_drop (ks : List ByteArray) (m : Nat) : kcl (ks.drop m) = (kcl ks).drop (m * 1) := by
  unfold kcl; rw [Nat.mul_one, List.map_drop]
theorem icl_take (ks : List Int) (m : Nat) : icl (ks.take m) = (icl ks).take (m * 1) := by
  unfold icl; rw [Nat.mul_one, List.map_take]
theorem icl_drop (ks : List Int) (m : Nat) : icl (ks.drop m) = (icl ks).drop (m * 1) := by
  unfold icl; rw [Nat.mul_one, List.map_drop]
/-- A node in memory; a list of it that is nil has no room. -/
structure NZ (w : World) (l : Bool) (kp : Option Addr) (nk kc : Nat) (vp : Option Addr) (nv vc : Nat) (ip : Option Addr) (ni ic : Nat) (x : Nd) : Prop where
  nv : NV w l kp nk kc vp nv vc ip ni ic x
  kz : kp = none → kc = 0
  vz : vp = none → vc = 0
  iz : ip = none → ic = 0
theorem NZ.kept {w w' : World} {l : Bool} {kp : Option Addr} {nk kc : Nat} {vp : Option Addr} {nv vc : Nat} {ip : Option Addr} {ni ic : Nat} {x : Nd} (h : NZ w l kp nk kc vp nv vc ip ni ic x) (k : Kept w w') : NZ w' l kp nk kc vp nv vc ip ni ic x := ⟨h.nv.kept k, h.kz, h.vz, h.iz⟩
theorem Own.z {w : World} {B : Nat} {e : TypeId} {sz : Nat} {p : Option Addr} {n c : Nat} {cs : List Value} (k : Own w B e sz p n c cs) : p = none → c = 0 := by
  intro h
  rcases k.cases with ⟨_, _, h2, _⟩ | ⟨g, cur, h2, _⟩
  · exact h2
  · rw [h] at h2; cases h2

def Nd.fst (x : Nd) (m : Nat) : Nd := if x.leaf = true then ⟨true, x.ks.take m, x.vs.take m, []⟩ else ⟨false, x.ks.take m, [], x.is.take (m + 1)⟩
def Nd.snd (x : Nd) (m : Nat) : Nd := if x.leaf = true then ⟨true, x.ks.drop m, x.vs.drop m, []⟩ else ⟨false, x.ks.drop (m + 1), [], x.is.drop (m + 1)⟩

set_option maxHeartbeats 1000000 in
set_option maxRecDepth 100000 in
theorem part_small {w : World} {l : Bool} {kp : Option Addr} {nk kc : Nat} {vp : Option Addr} {nv vc : Nat} {ip : Option Addr} {ni ic : Nat} {x : Nd} (h : NV w l kp nk kc vp nv vc ip ni ic x) (g : Good x) (hs : x.put.length ≤ 237) :
    Calls Try.prog 23 #[.agg #[.bool l, .slice kp nk kc, .slice vp nv vc, .slice ip ni ic]] w fun e w' => ∃ (g : Nat) (kp' : Option Addr) (kc' : Nat) (vp' : Option Addr) (nv' vc' : Nat) (ip' : Option Addr) (ni' ic' : Nat), e = .returned (.tuple #[.slice (some ⟨g, 0, none⟩) 1 1, .string ⟨#[]⟩]) ∧ C4 w' g 27 (.bool l) (.slice kp' nk kc') (.slice vp' nv' vc') (.slice ip' ni' ic') ∧ NV w' l kp' nk kc' vp' nv' vc' ip' ni' ic' x ∧ Kept w w' := by
  have HW : Hid (∀ W, Kept w W → Calls Try.prog 27 #[.agg #[.bool l, .slice kp nk kc, .slice vp nv vc, .slice ip ni ic]] W fun e w' => ∃ kp' kc' vp' nv' vc' ip' ni' ic', e = .returned (.agg #[.bool l, .slice kp' nk kc', .slice vp' nv' vc', .slice ip' ni' ic']) ∧ Own w' W.heap.size 9 1 kp' nk kc' (kcl x.ks) ∧ Own w' W.heap.size 49 3 vp' nv' vc' (vcl x.vs) ∧ Own w' W.heap.size 3 1 ip' ni' ic' (icl x.is) ∧ Kept W w') := fun W hW => whole_walk (h.kept hW) g
  have HLF : Hid (x.leaf = l) := h.hl
  have HP : Hid (∀ (W : World) (kp : Option Addr) (nk kc : Nat) (vp : Option Addr) (nv vc : Nat) (ip : Option Addr) (ni ic : Nat), NV W l kp nk kc vp nv vc ip ni ic x → Calls Try.prog 9 #[.agg #[.bool l, .slice kp nk kc, .slice vp nv vc, .slice ip ni ic]] W fun e w' => e = .returned (.string (bs x.put)) ∧ Kept W w') := fun W kp nk kc vp nv vc ip ni ic h => put_walk h g
  have K0 : Kept w (w.alloc (.cells #[.bool l, .slice kp nk kc, .slice vp nv vc, .slice ip ni ic] 27)) := (Kept.refl w).alloc _
  have X0 := C4.alloc w 27 (.bool l) (.slice kp nk kc) (.slice vp nv vc) (.slice ip ni ic)
  have S0 := size_alloc w (.cells #[.bool l, .slice kp nk kc, .slice vp nv vc, .slice ip ni ic] 27)
  have hz := bs_size x.put
  rw [← hz] at hs
  generalize bs x.put = s at *
  have hs2 : (s.size : Int) ≤ 237 := by omega
  clear h g hz
  go_enter Try.func23, Try.ntmps23
  go_wp2_with (first
    | (go_at_call 27
       (with_reducible refine (HW.out _ K0).mono ?_)
       rintro e v1 ⟨kp1, kc1, vp1, nv1, vc1, ip1, ni1, ic1, rfl, O1, O2, O3, k1⟩
       have X1 := X0.kept k1
       have K1 := K0.trans k1
       rw [S0] at O1 O2 O3
       obtain ⟨⟨g0, f0⟩, ⟨g1, f1⟩, ⟨g2, f2⟩, ⟨g3, f3⟩, hfin⟩ := ready4 X1.out (.bool l) (.slice kp1 nk kc1) (.slice vp1 nv1 vc1) (.slice ip1 ni1 ic1)
       have V1 : NV _ l kp1 nk kc1 vp1 nv1 vc1 ip1 ni1 ic1 x := ⟨HLF.out, (O1.st4 (Nat.lt_succ_self _) (.bool l) (.slice kp1 nk kc1) (.slice vp1 nv1 vc1) (.slice ip1 ni1 ic1)).rw, (O2.st4 (Nat.lt_succ_self _) _ _ _ _).rw, (O3.st4 (Nat.lt_succ_self _) _ _ _ _).rw⟩
       have K2 := K1.st4 (Nat.le_refl _) (.bool l) (.slice kp1 nk kc1) (.slice vp1 nv1 vc1) (.slice ip1 ni1 ic1)
       have c4 : C4 _ w.heap.size 27 (.bool l) (.slice kp1 nk kc1) (.slice vp1 nv1 vc1) (.slice ip1 ni1 ic1) := ⟨hfin⟩
       obtain ⟨y0, y1, y2, y3⟩ := c4.cs
       clear HW X0 K0 S0 O1 O2 O3 k1 X1 K1 hfin)
    | (go_at_call 9
       (with_reducible refine (HP.out _ _ _ _ _ _ _ _ _ _ V1).mono ?_)
       rintro e v2 ⟨rfl, k2⟩
       have K3 := K2.trans k2
       have V2 := V1.kept k2
       obtain ⟨a0, a1, a2, a3⟩ := (c4.kept k2).cs
       clear HP K2 c4 V1 g0 f0 g1 f1 g2 f2 g3 f3 y0 y1 y2 y3 k2))
  go_ret2
  exact ⟨_, _, _, _, _, _, _, _, _, rfl, C4.alloc v2 27 _ _ _ _, V2.kept ((Kept.refl v2).alloc _), K3.trans ((Kept.refl v2).alloc _)⟩

set_option maxHeartbeats 4000000 in
set_option maxRecDepth 100000 in
theorem part_true {w : World} {kp : Option Addr} {nk kc : Nat} {vp : Option Addr} {nv vc : Nat} {ip : Option Addr} {ni ic : Nat} {x : Nd} (h : NV w true kp nk kc vp nv vc ip ni ic x) (g : Good x) (hbig : 237 < x.put.length) :
    Calls Try.prog 23 #[.agg #[.bool true, .slice kp nk kc, .slice vp nv vc, .slice ip ni ic]] w fun e w' => ∃ (g m : Nat) (key : ByteArray) (kpA : Option Addr) (nkA kcA : Nat) (vpA : Option Addr) (nvA vcA : Nat) (ipA : Option Addr) (niA icA : Nat) (kpB : Option Addr) (nkB kcB : Nat) (vpB : Option Addr) (nvB vcB : Nat) (ipB : Option Addr) (niB icB : Nat), e = .returned (.tuple #[.slice (some ⟨g, 0, none⟩) 2 2, .string key]) ∧ x.ks[m]? = some key ∧ Mid x 0 m ∧ w'.heap[g]? = some (.cells #[.bool true, .slice kpA nkA kcA, .slice vpA nvA vcA, .slice ipA niA icA, .bool true, .slice kpB nkB kcB, .slice vpB nvB vcB, .slice ipB niB icB] 27) ∧ NZ w' true kpA nkA kcA vpA nvA vcA ipA niA icA (x.fst m) ∧ NZ w' true kpB nkB kcB vpB nvB vcB ipB niB icB (x.snd m) ∧ Kept w w' := by
  have hn3 : 3 ≤ nk := by have := great_few g hbig; have := h.nk; omega
  have hn2 : ¬ (nk : Int) < 2 := by omega
  have hf : nk ≤ 100 := by have := g.few; have := h.nk; omega
  have HW : Hid (∀ W, Kept w W → Calls Try.prog 27 #[.agg #[.bool true, .slice kp nk kc, .slice vp nv vc, .slice ip ni ic]] W fun e w' => ∃ kp' kc' vp' nv' vc' ip' ni' ic', e = .returned (.agg #[.bool true, .slice kp' nk kc', .slice vp' nv' vc', .slice ip' ni' ic']) ∧ Own w' W.heap.size 9 1 kp' nk kc' (kcl x.ks) ∧ Own w' W.heap.size 49 3 vp' nv' vc' (vcl x.vs) ∧ Own w' W.heap.size 3 1 ip' ni' ic' (icl x.is) ∧ Kept W w') := fun W hW => whole_walk (h.kept hW) g
  have HLF : Hid (x.leaf = true) := h.hl
  have HKL : Hid (x.ks.length = nk) := h.nk
  have G : Hid (Good x) := g
  have HP : Hid (∀ (W : World) (kp : Option Addr) (nk kc : Nat) (vp : Option Addr) (nv vc : Nat) (ip : Option Addr) (ni ic : Nat), NV W true kp nk kc vp nv vc ip ni ic x → Calls Try.prog 9 #[.agg #[.bool true, .slice kp nk kc, .slice vp nv vc, .slice ip ni ic]] W fun e w' => e = .returned (.string (bs x.put)) ∧ Kept W w') := fun W kp nk kc vp nv vc ip ni ic h => put_walk h g
  have HMI : Hid (∀ (W : World) (kp : Option Addr) (kc : Nat) (vp : Option Addr) (nv vc : Nat) (ip : Option Addr) (ni ic : Nat), NV W true kp nk kc vp nv vc ip ni ic x → Calls Try.prog 51 #[.agg #[.bool true, .slice kp nk kc, .slice vp nv vc, .slice ip ni ic]] W fun e w' => ∃ m : Nat, e = .returned (.int .i64 (m : Nat)) ∧ Mid x 0 m ∧ Kept W w') := fun W kp kc vp nv vc ip ni ic h => middle_walk h g (by omega)
  have K0 : Kept w (w.alloc (.cells #[.bool true, .slice kp nk kc, .slice vp nv vc, .slice ip ni ic] 27)) := (Kept.refl w).alloc _
  have X0 := C4.alloc w 27 (.bool true) (.slice kp nk kc) (.slice vp nv vc) (.slice ip ni ic)
  have S0 := size_alloc w (.cells #[.bool true, .slice kp nk kc, .slice vp nv vc, .slice ip ni ic] 27)
  have hz := bs_size x.put
  rw [← hz] at hbig
  generalize bs x.put = s at *
  have hs2 : ¬ (s.size : Int) ≤ 237 := by omega
  clear h g hz
  go_enter Try.func23, Try.ntmps23
  go_wp2_with (first
    | (go_at_call 27
       (with_reducible refine (HW.out _ K0).mono ?_)
       rintro e v1 ⟨kp1, kc1, vp1, nv1, vc1, ip1, ni1, ic1, rfl, O1, O2, O3, k1⟩
       have X1 := X0.kept k1
       have K1 := K0.trans k1
       rw [S0] at O1 O2 O3
       obtain ⟨⟨g0, f0⟩, ⟨g1, f1⟩, ⟨g2, f2⟩, ⟨g3, f3⟩, hfin⟩ := ready4 X1.out (.bool true) (.slice kp1 nk kc1) (.slice vp1 nv1 vc1) (.slice ip1 ni1 ic1)
       have V1 : NV _ true kp1 nk kc1 vp1 nv1 vc1 ip1 ni1 ic1 x := ⟨HLF.out, (O1.st4 (Nat.lt_succ_self _) (.bool true) (.slice kp1 nk kc1) (.slice vp1 nv1 vc1) (.slice ip1 ni1 ic1)).rw, (O2.st4 (Nat.lt_succ_self _) _ _ _ _).rw, (O3.st4 (Nat.lt_succ_self _) _ _ _ _).rw⟩
       have K2 := K1.st4 (Nat.le_refl _) (.bool true) (.slice kp1 nk kc1) (.slice vp1 nv1 vc1) (.slice ip1 ni1 ic1)
       have c4 : C4 _ w.heap.size 27 (.bool true) (.slice kp1 nk kc1) (.slice vp1 nv1 vc1) (.slice ip1 ni1 ic1) := ⟨hfin⟩
       obtain ⟨y0, y1, y2, y3⟩ := c4.cs
       clear HW X0 K0 S0 O1 O2 O3 k1 X1 K1 hfin)
    | (go_at_call 9
       (with_reducible refine (HP.out _ _ _ _ _ _ _ _ _ _ V1).mono ?_)
       rintro e v2 ⟨rfl, k2⟩
       have K3 := K2.trans k2
       have V2 := V1.kept k2
       have d4 := c4.kept k2
       obtain ⟨a0, a1, a2, a3⟩ := d4.cs
       clear HP K2 c4 V1 g0 f0 g1 f1 g2 f2 g3 f3 y0 y1 y2 y3 k2)
    | (go_at_call 51
       (with_reducible refine (HMI.out _ _ _ _ _ _ _ _ _ V2).mono ?_)
       rintro e v3 ⟨m, rfl, HM0, k3⟩
       have HM : Hid (Mid x 0 m) := HM0
       have hm : m < nk := (by have := HM0.lt; have := HKL.out; omega)
       have hm' : (m : Int) < (nk : Int) := (by omega)
       have K4 := K3.trans k3
       have V3 := V2.kept k3
       have e4 := d4.kept k3
       obtain ⟨kb, ko, rfl, hkc⟩ := V3.k.some (by omega)
       obtain ⟨key, hky⟩ : ∃ key, x.ks[m]? = some key := ⟨_, List.getElem?_eq_getElem (by have := HKL.out; omega)⟩
       have HKY : Hid (x.ks[m]? = some key) := hky
       have ck := hkc m _ (kcl_at hky)
       have HKC : Hid (∀ j u, (kcl x.ks)[j]? = some u → v3.cell? ⟨kb, ko + j, none⟩ = some u) := hkc
       obtain ⟨z0, z1, z2, z3⟩ := e4.cs
       clear HMI K3 V2 d4 a0 a1 a2 a3 k3 HM0 hkc hky))
  have hv2 := (G.out.lv HLF.out).1
  obtain rfl : nv1 = nk := by rw [← V3.nv, hv2, HKL.out]
  obtain ⟨vb, vo, rfl, hvc⟩ := V3.v.some (by omega)
  have HVC : Hid (∀ j u, (vcl x.vs)[j]? = some u → v3.cell? ⟨vb, vo + j, none⟩ = some u) := hvc
  have hkl := V3.k.le
  have hvl := V3.v.le
  have q1 : (m : Int) ≤ (kc1 : Int) := by omega
  have q2 : (m : Int) ≤ (vc1 : Int) := by omega
  have q3 : (m : Int) ≤ (nv1 : Int) := by omega
  have q4 : (nv1 : Int) ≤ (kc1 : Int) := by omega
  have q5 : (nv1 : Int) ≤ (vc1 : Int) := by omega
  have q6 : (0 : Int) ≤ (m : Int) := by omega
  have HCA : Hid (∀ W, Kept v3 W → Calls Try.prog 17 #[.agg #[.bool true, .slice (some ⟨kb, ko, none⟩) m kc1, .slice (some ⟨vb, vo, none⟩) m vc1, .slice none 0 0]] W fun e w' => ∃ kp' kc' vp' vc' ip' ic', e = .returned (.agg #[.bool true, .slice kp' m kc', .slice vp' m vc', .slice ip' 0 ic']) ∧ Own w' W.heap.size 9 1 kp' m kc' (kcl (x.ks.take m)) ∧ Own w' W.heap.size 49 3 vp' m vc' (vcl (x.vs.take m)) ∧ Own w' W.heap.size 3 1 ip' 0 ic' (icl []) ∧ Kept W w') := fun W hW => by
    have r1 := (hW.rw V3.k).take m (by omega)
    have r2 := (hW.rw V3.v).take m (by omega)
    rw [← kcl_take] at r1
    rw [vcl_take] at r2
    exact copy_walk r1 r2 ⟨rfl, Nat.le_refl _, Nat.zero_le _, .inl ⟨rfl, rfl⟩⟩ (kcl_one _) (vcl_one _) (icl_one _) (by omega) (by omega) (by omega)
  have HCB : Hid (∀ W, Kept v3 W → Calls Try.prog 17 #[.agg #[.bool true, .slice (some ⟨kb, ko + m, none⟩) (nv1 - m) (kc1 - m), .slice (some ⟨vb, vo + m * 3, none⟩) (nv1 - m) (vc1 - m), .slice none 0 0]] W fun e w' => ∃ kp' kc' vp' vc' ip' ic', e = .returned (.agg #[.bool true, .slice kp' (nv1 - m) kc', .slice vp' (nv1 - m) vc', .slice ip' 0 ic']) ∧ Own w' W.heap.size 9 1 kp' (nv1 - m) kc' (kcl (x.ks.drop m)) ∧ Own w' W.heap.size 49 3 vp' (nv1 - m) vc' (vcl (x.vs.drop m)) ∧ Own w' W.heap.size 3 1 ip' 0 ic' (icl []) ∧ Kept W w') := fun W hW => by
    have r1 := row_drop (fun j u hj => hW.cell (HKC.out j u hj)) V3.k.len V3.k.le V3.k.cap m (by omega)
    have r2 := row_drop (fun j u hj => hW.cell (HVC.out j u hj)) V3.v.len V3.v.le V3.v.cap m (by omega)
    rw [← kcl_drop, Nat.mul_one] at r1
    rw [vcl_drop] at r2
    exact copy_walk r1 r2 ⟨rfl, Nat.le_refl _, Nat.zero_le _, .inl ⟨rfl, rfl⟩⟩ (kcl_one _) (vcl_one _) (icl_one _) (by omega) (by omega) (by omega)
  have KD : Kept v3 v3.drew := (Kept.refl v3).drew
  have HSA : Hid (∀ W, Kept v3 W → W.cell? ⟨w.heap.size, 1, none⟩ = some (.slice (some ⟨kb, ko, none⟩) nv1 kc1) ∧ W.cell? ⟨w.heap.size, 2, none⟩ = some (.slice (some ⟨vb, vo, none⟩) nv1 vc1)) := by
    intro W hW
    exact ⟨(e4.kept hW).cs.2.1, (e4.kept hW).cs.2.2.1⟩
  clear hvc z0 z1 z2 z3 ck e4 V3 hkl hvl hm hv2
  go_region_held3 (fun W => W.cell? ⟨w.heap.size, 1, none⟩ = some (.slice (some ⟨kb, ko, none⟩) nv1 kc1) ∧ W.cell? ⟨w.heap.size, 2, none⟩ = some (.slice (some ⟨vb, vo, none⟩) nv1 vc1)) (exact HSA.out _ (by first | assumption | exact Kept.alloc (by assumption) _)) (first
    | (go_at_call 17
       (with_reducible refine (HCA.out _ KD).mono ?_)
       rintro e v4 ⟨kpA, kcA, vpA, vcA, ipA, icA, rfl, A1, A2, A3, k4⟩
       have J1 := KD.trans k4
       clear HCA)
    | (go_at_call 17
       (with_reducible refine (HCB.out _ J1).mono ?_)
       rintro e v5 ⟨kpB, kcB, vpB, vcB, ipB, icB, rfl, B1, B2, B3, k5⟩
       have J2 := J1.trans k5
       clear J1))
  go_wp2
  go_ret2
  have e1 : x.fst m = ⟨true, x.ks.take m, x.vs.take m, []⟩ := by unfold Nd.fst; rw [if_pos HLF.out]
  have e2 : x.snd m = ⟨true, x.ks.drop m, x.vs.drop m, []⟩ := by unfold Nd.snd; rw [if_pos HLF.out]
  have kA := k5.alloc (.cells #[.bool true, .slice kpA m kcA, .slice vpA m vcA, .slice ipA 0 icA, .bool true, .slice kpB (nv1 - m) kcB, .slice vpB (nv1 - m) vcB, .slice ipB 0 icB] 27)
  have kB := (Kept.refl v5).alloc (.cells #[.bool true, .slice kpA m kcA, .slice vpA m vcA, .slice ipA 0 icA, .bool true, .slice kpB (nv1 - m) kcB, .slice vpB (nv1 - m) vcB, .slice ipB 0 icB] 27)
  exact ⟨_, m, key, _, _, _, _, _, _, _, _, _, _, _, _, _, _, _, _, _, _, rfl, HKY.out, HM.out, heap_alloc_new v5 _, (by rw [e1]; exact ⟨⟨rfl, (A1.kept kA).rw, (A2.kept kA).rw, (A3.kept kA).rw⟩, A1.z, A2.z, A3.z⟩), (by rw [e2]; exact ⟨⟨rfl, (B1.kept kB).rw, (B2.kept kB).rw, (B3.kept kB).rw⟩, B1.z, B2.z, B3.z⟩), K4.trans (J2.trans kB)⟩

set_option maxHeartbeats 4000000 in
set_option maxRecDepth 100000 in
theorem part_false {w : World} {kp : Option Addr} {nk kc : Nat} {vp : Option Addr} {nv vc : Nat} {ip : Option Addr} {ni ic : Nat} {x : Nd} (h : NV w false kp nk kc vp nv vc ip ni ic x) (g : Good x) (hbig : 237 < x.put.length) :
    Calls Try.prog 23 #[.agg #[.bool false, .slice kp nk kc, .slice vp nv vc, .slice ip ni ic]] w fun e w' => ∃ (g m : Nat) (key : ByteArray) (kpA : Option Addr) (nkA kcA : Nat) (vpA : Option Addr) (nvA vcA : Nat) (ipA : Option Addr) (niA icA : Nat) (kpB : Option Addr) (nkB kcB : Nat) (vpB : Option Addr) (nvB vcB : Nat) (ipB : Option Addr) (niB icB : Nat), e = .returned (.tuple #[.slice (some ⟨g, 0, none⟩) 2 2, .string key]) ∧ x.ks[m]? = some key ∧ Mid x 0 m ∧ w'.heap[g]? = some (.cells #[.bool false, .slice kpA nkA kcA, .slice vpA nvA vcA, .slice ipA niA icA, .bool false, .slice kpB nkB kcB, .slice vpB nvB vcB, .slice ipB niB icB] 27) ∧ NZ w' false kpA nkA kcA vpA nvA vcA ipA niA icA (x.fst m) ∧ NZ w' false kpB nkB kcB vpB nvB vcB ipB niB icB (x.snd m) ∧ Kept w w' := by
  have hn3 : 3 ≤ nk := by have := great_few g hbig; have := h.nk; omega
  have hn2 : ¬ (nk : Int) < 2 := by omega
  have hf : nk ≤ 100 := by have := g.few; have := h.nk; omega
  have HW : Hid (∀ W, Kept w W → Calls Try.prog 27 #[.agg #[.bool false, .slice kp nk kc, .slice vp nv vc, .slice ip ni ic]] W fun e w' => ∃ kp' kc' vp' nv' vc' ip' ni' ic', e = .returned (.agg #[.bool false, .slice kp' nk kc', .slice vp' nv' vc', .slice ip' ni' ic']) ∧ Own w' W.heap.size 9 1 kp' nk kc' (kcl x.ks) ∧ Own w' W.heap.size 49 3 vp' nv' vc' (vcl x.vs) ∧ Own w' W.heap.size 3 1 ip' ni' ic' (icl x.is) ∧ Kept W w') := fun W hW => whole_walk (h.kept hW) g
  have HLF : Hid (x.leaf = false) := h.hl
  have HKL : Hid (x.ks.length = nk) := h.nk
  have G : Hid (Good x) := g
  have HP : Hid (∀ (W : World) (kp : Option Addr) (nk kc : Nat) (vp : Option Addr) (nv vc : Nat) (ip : Option Addr) (ni ic : Nat), NV W false kp nk kc vp nv vc ip ni ic x → Calls Try.prog 9 #[.agg #[.bool false, .slice kp nk kc, .slice vp nv vc, .slice ip ni ic]] W fun e w' => e = .returned (.string (bs x.put)) ∧ Kept W w') := fun W kp nk kc vp nv vc ip ni ic h => put_walk h g
  have HMI : Hid (∀ (W : World) (kp : Option Addr) (kc : Nat) (vp : Option Addr) (nv vc : Nat) (ip : Option Addr) (ni ic : Nat), NV W false kp nk kc vp nv vc ip ni ic x → Calls Try.prog 51 #[.agg #[.bool false, .slice kp nk kc, .slice vp nv vc, .slice ip ni ic]] W fun e w' => ∃ m : Nat, e = .returned (.int .i64 (m : Nat)) ∧ Mid x 0 m ∧ Kept W w') := fun W kp kc vp nv vc ip ni ic h => middle_walk h g (by omega)
  have K0 : Kept w (w.alloc (.cells #[.bool false, .slice kp nk kc, .slice vp nv vc, .slice ip ni ic] 27)) := (Kept.refl w).alloc _
  have X0 := C4.alloc w 27 (.bool false) (.slice kp nk kc) (.slice vp nv vc) (.slice ip ni ic)
  have S0 := size_alloc w (.cells #[.bool false, .slice kp nk kc, .slice vp nv vc, .slice ip ni ic] 27)
  have hz := bs_size x.put
  rw [← hz] at hbig
  generalize bs x.put = s at *
  have hs2 : ¬ (s.size : Int) ≤ 237 := by omega
  clear h g hz
  go_enter Try.func23, Try.ntmps23
  go_wp2_with (first
    | (go_at_call 27
       (with_reducible refine (HW.out _ K0).mono ?_)
       rintro e v1 ⟨kp1, kc1, vp1, nv1, vc1, ip1, ni1, ic1, rfl, O1, O2, O3, k1⟩
       have X1 := X0.kept k1
       have K1 := K0.trans k1
       rw [S0] at O1 O2 O3
       obtain ⟨⟨g0, f0⟩, ⟨g1, f1⟩, ⟨g2, f2⟩, ⟨g3, f3⟩, hfin⟩ := ready4 X1.out (.bool false) (.slice kp1 nk kc1) (.slice vp1 nv1 vc1) (.slice ip1 ni1 ic1)
       have V1 : NV _ false kp1 nk kc1 vp1 nv1 vc1 ip1 ni1 ic1 x := ⟨HLF.out, (O1.st4 (Nat.lt_succ_self _) (.bool false) (.slice kp1 nk kc1) (.slice vp1 nv1 vc1) (.slice ip1 ni1 ic1)).rw, (O2.st4 (Nat.lt_succ_self _) _ _ _ _).rw, (O3.st4 (Nat.lt_succ_self _) _ _ _ _).rw⟩
       have K2 := K1.st4 (Nat.le_refl _) (.bool false) (.slice kp1 nk kc1) (.slice vp1 nv1 vc1) (.slice ip1 ni1 ic1)
       have c4 : C4 _ w.heap.size 27 (.bool false) (.slice kp1 nk kc1) (.slice vp1 nv1 vc1) (.slice ip1 ni1 ic1) := ⟨hfin⟩
       obtain ⟨y0, y1, y2, y3⟩ := c4.cs
       clear HW X0 K0 S0 O1 O2 O3 k1 X1 K1 hfin)
    | (go_at_call 9
       (with_reducible refine (HP.out _ _ _ _ _ _ _ _ _ _ V1).mono ?_)
       rintro e v2 ⟨rfl, k2⟩
       have K3 := K2.trans k2
       have V2 := V1.kept k2
       have d4 := c4.kept k2
       obtain ⟨a0, a1, a2, a3⟩ := d4.cs
       clear HP K2 c4 V1 g0 f0 g1 f1 g2 f2 g3 f3 y0 y1 y2 y3 k2)
    | (go_at_call 51
       (with_reducible refine (HMI.out _ _ _ _ _ _ _ _ _ V2).mono ?_)
       rintro e v3 ⟨m, rfl, HM0, k3⟩
       have HM : Hid (Mid x 0 m) := HM0
       have hm : m < nk := (by have := HM0.lt; have := HKL.out; omega)
       have hm' : (m : Int) < (nk : Int) := (by omega)
       have K4 := K3.trans k3
       have V3 := V2.kept k3
       have e4 := d4.kept k3
       obtain ⟨kb, ko, rfl, hkc⟩ := V3.k.some (by omega)
       obtain ⟨key, hky⟩ : ∃ key, x.ks[m]? = some key := ⟨_, List.getElem?_eq_getElem (by have := HKL.out; omega)⟩
       have HKY : Hid (x.ks[m]? = some key) := hky
       have ck := hkc m _ (kcl_at hky)
       have HKC : Hid (∀ j u, (kcl x.ks)[j]? = some u → v3.cell? ⟨kb, ko + j, none⟩ = some u) := hkc
       obtain ⟨z0, z1, z2, z3⟩ := e4.cs
       clear HMI K3 V2 d4 a0 a1 a2 a3 k3 HM0 hkc hky))
  have hv2 := (G.out.li HLF.out).1
  have hni : ni1 = nk + 1 := by rw [← V3.ni, hv2, HKL.out]
  obtain ⟨ib, io, rfl, hvc⟩ := V3.i.some (by omega)
  have HVC : Hid (∀ j u, (icl x.is)[j]? = some u → v3.cell? ⟨ib, io + j, none⟩ = some u) := hvc
  have hkl := V3.k.le
  have hvl := V3.i.le
  have q1 : (m : Int) ≤ (kc1 : Int) := by omega
  have q1b : (m : Int) + 1 ≤ (kc1 : Int) := by omega
  have q2 : (m : Int) + 1 ≤ (ic1 : Int) := by omega
  have q3 : (m : Int) + 1 ≤ (nk : Int) := by omega
  have q4 : (nk : Int) ≤ (kc1 : Int) := by omega
  have q5 : (ni1 : Int) ≤ (ic1 : Int) := by omega
  have q7 : (m : Int) + 1 ≤ (ni1 : Int) := by omega
  have q11 : (m : Int) < (nk : Int) := by omega
  have q8 : (0 : Int) ≤ (m : Int) + 1 := by omega
  have q9 : IntKind.i64.wrap ((m : Int) + 1) = (m : Int) + 1 := by rw [IntKind.wrap_i64]; omega
  have hi1 : ¬ ic1 = m + 1 := by omega
  have q10 : ((m : Int) + 1).toNat = m + 1 := by omega
  have q6 : (0 : Int) ≤ (m : Int) := by omega
  have HCA : Hid (∀ W, Kept v3 W → Calls Try.prog 17 #[.agg #[.bool false, .slice (some ⟨kb, ko, none⟩) m kc1, .slice none 0 0, .slice (some ⟨ib, io, none⟩) (m + 1) ic1]] W fun e w' => ∃ kp' kc' vp' vc' ip' ic', e = .returned (.agg #[.bool false, .slice kp' m kc', .slice vp' 0 vc', .slice ip' (m + 1) ic']) ∧ Own w' W.heap.size 9 1 kp' m kc' (kcl (x.ks.take m)) ∧ Own w' W.heap.size 49 3 vp' 0 vc' (vcl []) ∧ Own w' W.heap.size 3 1 ip' (m + 1) ic' (icl (x.is.take (m + 1))) ∧ Kept W w') := fun W hW => by
    have r1 := (hW.rw V3.k).take m (by omega)
    have r2 := (hW.rw V3.i).take (m + 1) (by omega)
    rw [← kcl_take] at r1
    rw [← icl_take] at r2
    exact copy_walk r1 ⟨rfl, Nat.le_refl _, Nat.zero_le _, .inl ⟨rfl, rfl⟩⟩ r2 (kcl_one _) (vcl_one _) (icl_one _) (by omega) (by omega) (by omega)
  by_cases hk1 : kc1 = m + 1
  · subst hk1
    have q12 : (m : Int) ≤ (m : Int) + 1 := by omega
    have HCB : Hid (∀ W, Kept v3 W → Calls Try.prog 17 #[.agg #[.bool false, .slice (some ⟨kb, ko, none⟩) (nk - (m + 1)) 0, .slice none 0 0, .slice (some ⟨ib, io + (m + 1), none⟩) (ni1 - (m + 1)) (ic1 - (m + 1))]] W fun e w' => ∃ kp' kc' vp' vc' ip' ic', e = .returned (.agg #[.bool false, .slice kp' (nk - (m + 1)) kc', .slice vp' 0 vc', .slice ip' (ni1 - (m + 1)) ic']) ∧ Own w' W.heap.size 9 1 kp' (nk - (m + 1)) kc' (kcl (x.ks.drop (m + 1))) ∧ Own w' W.heap.size 49 3 vp' 0 vc' (vcl []) ∧ Own w' W.heap.size 3 1 ip' (ni1 - (m + 1)) ic' (icl (x.is.drop (m + 1))) ∧ Kept W w') := fun W hW => by
      have r1 : Rw W 1 (some ⟨kb, ko, none⟩) (nk - (m + 1)) 0 (kcl (x.ks.drop (m + 1))) := ⟨by rw [kcl_length, List.length_drop, HKL.out, Nat.mul_one], by omega, Nat.zero_le _, .inr ⟨kb, ko, rfl, fun j u hj => by rw [List.drop_eq_nil_of_le (by rw [HKL.out]; omega)] at hj; simp [kcl] at hj⟩⟩
      have r2 := row_drop (fun j u hj => hW.cell (HVC.out j u hj)) V3.i.len V3.i.le V3.i.cap (m + 1) (by omega)
      rw [← icl_drop, Nat.mul_one] at r2
      exact copy_walk r1 ⟨rfl, Nat.le_refl _, Nat.zero_le _, .inl ⟨rfl, rfl⟩⟩ r2 (kcl_one _) (vcl_one _) (icl_one _) (by omega) (by omega) (by omega)
    have KD : Kept v3 v3.drew := (Kept.refl v3).drew
    have HSA : Hid (∀ W, Kept v3 W → W.cell? ⟨w.heap.size, 1, none⟩ = some (.slice (some ⟨kb, ko, none⟩) nk (m + 1)) ∧ W.cell? ⟨w.heap.size, 3, none⟩ = some (.slice (some ⟨ib, io, none⟩) ni1 ic1)) := by
      intro W hW
      exact ⟨(e4.kept hW).cs.2.1, (e4.kept hW).cs.2.2.2⟩
    clear hvc z0 z1 z2 z3 ck e4 V3 hkl hvl hm hni hv2
    refine wp_region_held_drew (S := (fun W => W.cell? ⟨w.heap.size, 1, none⟩ = some (.slice (some ⟨kb, ko, none⟩) nk (m + 1)) ∧ W.cell? ⟨w.heap.size, 3, none⟩ = some (.slice (some ⟨ib, io, none⟩) ni1 ic1))) (by kernel_rfl) ?_ (fun hHeld => ?_)
    · exact HSA.out _ KD
    refine wpAnyH_take (i := 0) (oi := { dst := some 55, op := Go.Op.fieldAddr 27 (Go.Operand.tmp 1) 1, type := 0, pos := "node.go:204", after := #[], guard := none }) (v := ?_) rfl (by kernel_rfl) (by kernel_rfl) (by kernel_rfl) (fun _ _ _ h => h) (Or.inl ⟨by rfl, ?_⟩) (by assumption) ?_
    rotate_left
    · intro w hSw
      (try dsimp only at hSw)
      go_simp
      all_goals with_reducible rfl
    try simp only [Act.put, List.setIfInBounds_toArray, List.set_cons_zero, List.set_cons_succ]
    refine wpAnyH_take (i := 1) (oi := { dst := some 56, op := Go.Op.load 23 (Go.Operand.tmp 55), type := 23, pos := "node.go:204", after := #[{ on := 0, ground := Go.Ground.data }], guard := none }) (v := ?_) rfl (by kernel_rfl) (by kernel_rfl) (by kernel_rfl) (fun _ _ _ h => h) (Or.inl ⟨by rfl, ?_⟩) (by assumption) ?_
    rotate_left
    · intro w hSw
      (try dsimp only at hSw)
      go_simp
      all_goals with_reducible rfl
    try simp only [Act.put, List.setIfInBounds_toArray, List.set_cons_zero, List.set_cons_succ]
    refine wpAnyH_take (i := 2) (oi := { dst := some 57, op := Go.Op.move (Go.Operand.tmp 4), type := 3, pos := "node.go:204", after := #[], guard := none }) (v := ?_) rfl (by kernel_rfl) (by kernel_rfl) (by kernel_rfl) (fun _ _ _ h => h) (Or.inl ⟨by rfl, ?_⟩) (by assumption) ?_
    rotate_left
    · intro w hSw
      (try dsimp only at hSw)
      go_simp
      all_goals with_reducible rfl
    try simp only [Act.put, List.setIfInBounds_toArray, List.set_cons_zero, List.set_cons_succ]
    refine wpAnyH_take (i := 3) (oi := { dst := some 58, op := Go.Op.slice 23 (Go.Operand.tmp 56) none (some (Go.Operand.tmp 57)) none, type := 23, pos := "node.go:204", after := #[{ on := 1, ground := Go.Ground.data }, { on := 2, ground := Go.Ground.data }], guard := none }) (v := ?_) rfl (by kernel_rfl) (by kernel_rfl) (by kernel_rfl) (fun _ _ _ h => h) (Or.inl ⟨by rfl, ?_⟩) (by assumption) ?_
    rotate_left
    · intro w hSw
      (try dsimp only at hSw)
      go_simp
      all_goals with_reducible rfl
    try simp only [Act.put, List.setIfInBounds_toArray, List.set_cons_zero, List.set_cons_succ]
    refine wpAnyH_take (i := 4) (oi := { dst := some 59, op := Go.Op.fieldAddr 27 (Go.Operand.tmp 1) 3, type := 0, pos := "node.go:204", after := #[], guard := none }) (v := ?_) rfl (by kernel_rfl) (by kernel_rfl) (by kernel_rfl) (fun _ _ _ h => h) (Or.inl ⟨by rfl, ?_⟩) (by assumption) ?_
    rotate_left
    · intro w hSw
      (try dsimp only at hSw)
      go_simp
      all_goals with_reducible rfl
    try simp only [Act.put, List.setIfInBounds_toArray, List.set_cons_zero, List.set_cons_succ]
    refine wpAnyH_take (i := 5) (oi := { dst := some 60, op := Go.Op.load 25 (Go.Operand.tmp 59), type := 25, pos := "node.go:204", after := #[{ on := 4, ground := Go.Ground.data }], guard := none }) (v := ?_) rfl (by kernel_rfl) (by kernel_rfl) (by kernel_rfl) (fun _ _ _ h => h) (Or.inl ⟨by rfl, ?_⟩) (by assumption) ?_
    rotate_left
    · intro w hSw
      (try dsimp only at hSw)
      go_simp
      all_goals with_reducible rfl
    try simp only [Act.put, List.setIfInBounds_toArray, List.set_cons_zero, List.set_cons_succ]
    refine wpAnyH_take (i := 6) (oi := { dst := some 61, op := Go.Op.move (Go.Operand.tmp 4), type := 3, pos := "node.go:204", after := #[], guard := none }) (v := ?_) rfl (by kernel_rfl) (by kernel_rfl) (by kernel_rfl) (fun _ _ _ h => h) (Or.inl ⟨by rfl, ?_⟩) (by assumption) ?_
    rotate_left
    · intro w hSw
      (try dsimp only at hSw)
      go_simp
      all_goals with_reducible rfl
    try simp only [Act.put, List.setIfInBounds_toArray, List.set_cons_zero, List.set_cons_succ]
    refine wpAnyH_take (i := 7) (oi := { dst := some 62, op := Go.Op.binOp Go.BinOp.add 3 (Go.Operand.tmp 61) (Go.Operand.const (Go.Value.int Go.IntKind.i64 1)) 3, type := 3, pos := "node.go:204", after := #[{ on := 6, ground := Go.Ground.data }], guard := none }) (v := ?_) rfl (by kernel_rfl) (by kernel_rfl) (by kernel_rfl) (fun _ _ _ h => h) (Or.inl ⟨by rfl, ?_⟩) (by assumption) ?_
    rotate_left
    · intro w hSw
      (try dsimp only at hSw)
      go_simp
      all_goals with_reducible rfl
    try simp only [Act.put, List.setIfInBounds_toArray, List.set_cons_zero, List.set_cons_succ]
    refine wpAnyH_take (i := 8) (oi := { dst := some 63, op := Go.Op.slice 25 (Go.Operand.tmp 60) none (some (Go.Operand.tmp 62)) none, type := 25, pos := "node.go:204", after := #[{ on := 5, ground := Go.Ground.data }, { on := 7, ground := Go.Ground.data }], guard := none }) (v := ?_) rfl (by kernel_rfl) (by kernel_rfl) (by kernel_rfl) (fun _ _ _ h => h) (Or.inl ⟨by rfl, ?_⟩) (by assumption) ?_
    rotate_left
    · intro w hSw
      (try dsimp only at hSw)
      go_simp
      all_goals with_reducible rfl
    try simp only [Act.put, List.setIfInBounds_toArray, List.set_cons_zero, List.set_cons_succ]
    refine wpAnyH_take (i := 9) (oi := { dst := some 64, op := Go.Op.build 27 #[(1, Go.Operand.tmp 58), (3, Go.Operand.tmp 63)], type := 27, pos := "node.go:204", after := #[{ on := 3, ground := Go.Ground.data }, { on := 8, ground := Go.Ground.data }], guard := none }) (v := ?_) rfl (by kernel_rfl) (by kernel_rfl) (by kernel_rfl) (fun _ _ _ h => h) (Or.inl ⟨by rfl, ?_⟩) (by assumption) ?_
    rotate_left
    · intro w hSw
      (try dsimp only at hSw)
      go_simp
      all_goals with_reducible rfl
    try simp only [Act.put, List.setIfInBounds_toArray, List.set_cons_zero, List.set_cons_succ]
    refine wpAnyH_take (i := 11) (oi := { dst := some 66, op := Go.Op.fieldAddr 27 (Go.Operand.tmp 1) 1, type := 0, pos := "node.go:204", after := #[], guard := none }) (v := ?_) rfl (by kernel_rfl) (by kernel_rfl) (by kernel_rfl) (fun _ _ _ h => h) (Or.inl ⟨by rfl, ?_⟩) (by assumption) ?_
    rotate_left
    · intro w hSw
      (try dsimp only at hSw)
      go_simp
      all_goals with_reducible rfl
    try simp only [Act.put, List.setIfInBounds_toArray, List.set_cons_zero, List.set_cons_succ]
    refine wpAnyH_take (i := 12) (oi := { dst := some 67, op := Go.Op.load 23 (Go.Operand.tmp 66), type := 23, pos := "node.go:204", after := #[{ on := 11, ground := Go.Ground.data }], guard := none }) (v := ?_) rfl (by kernel_rfl) (by kernel_rfl) (by kernel_rfl) (fun _ _ _ h => h) (Or.inl ⟨by rfl, ?_⟩) (by assumption) ?_
    rotate_left
    · intro w hSw
      (try dsimp only at hSw)
      go_simp
      all_goals with_reducible rfl
    try simp only [Act.put, List.setIfInBounds_toArray, List.set_cons_zero, List.set_cons_succ]
    refine wpAnyH_take (i := 13) (oi := { dst := some 68, op := Go.Op.move (Go.Operand.tmp 4), type := 3, pos := "node.go:204", after := #[], guard := none }) (v := ?_) rfl (by kernel_rfl) (by kernel_rfl) (by kernel_rfl) (fun _ _ _ h => h) (Or.inl ⟨by rfl, ?_⟩) (by assumption) ?_
    rotate_left
    · intro w hSw
      (try dsimp only at hSw)
      go_simp
      all_goals with_reducible rfl
    try simp only [Act.put, List.setIfInBounds_toArray, List.set_cons_zero, List.set_cons_succ]
    refine wpAnyH_take (i := 14) (oi := { dst := some 69, op := Go.Op.binOp Go.BinOp.add 3 (Go.Operand.tmp 68) (Go.Operand.const (Go.Value.int Go.IntKind.i64 1)) 3, type := 3, pos := "node.go:204", after := #[{ on := 13, ground := Go.Ground.data }], guard := none }) (v := ?_) rfl (by kernel_rfl) (by kernel_rfl) (by kernel_rfl) (fun _ _ _ h => h) (Or.inl ⟨by rfl, ?_⟩) (by assumption) ?_
    rotate_left
    · intro w hSw
      (try dsimp only at hSw)
      go_simp
      all_goals with_reducible rfl
    try simp only [Act.put, List.setIfInBounds_toArray, List.set_cons_zero, List.set_cons_succ]
    refine wpAnyH_take (i := 15) (oi := { dst := some 70, op := Go.Op.slice 23 (Go.Operand.tmp 67) (some (Go.Operand.tmp 69)) none none, type := 23, pos := "node.go:204", after := #[{ on := 12, ground := Go.Ground.data }, { on := 14, ground := Go.Ground.data }], guard := none }) (v := ?_) rfl (by kernel_rfl) (by kernel_rfl) (by kernel_rfl) (fun _ _ _ h => h) (Or.inl ⟨by rfl, ?_⟩) (by assumption) ?_
    rotate_left
    · intro w hSw
      (try dsimp only at hSw)
      go_simp
      all_goals with_reducible rfl
    try simp only [Act.put, List.setIfInBounds_toArray, List.set_cons_zero, List.set_cons_succ]
    refine wpAnyH_take (i := 16) (oi := { dst := some 71, op := Go.Op.fieldAddr 27 (Go.Operand.tmp 1) 3, type := 0, pos := "node.go:204", after := #[], guard := none }) (v := ?_) rfl (by kernel_rfl) (by kernel_rfl) (by kernel_rfl) (fun _ _ _ h => h) (Or.inl ⟨by rfl, ?_⟩) (by assumption) ?_
    rotate_left
    · intro w hSw
      (try dsimp only at hSw)
      go_simp
      all_goals with_reducible rfl
    try simp only [Act.put, List.setIfInBounds_toArray, List.set_cons_zero, List.set_cons_succ]
    refine wpAnyH_take (i := 17) (oi := { dst := some 72, op := Go.Op.load 25 (Go.Operand.tmp 71), type := 25, pos := "node.go:204", after := #[{ on := 16, ground := Go.Ground.data }], guard := none }) (v := ?_) rfl (by kernel_rfl) (by kernel_rfl) (by kernel_rfl) (fun _ _ _ h => h) (Or.inl ⟨by rfl, ?_⟩) (by assumption) ?_
    rotate_left
    · intro w hSw
      (try dsimp only at hSw)
      go_simp
      all_goals with_reducible rfl
    try simp only [Act.put, List.setIfInBounds_toArray, List.set_cons_zero, List.set_cons_succ]
    refine wpAnyH_take (i := 18) (oi := { dst := some 73, op := Go.Op.move (Go.Operand.tmp 4), type := 3, pos := "node.go:204", after := #[], guard := none }) (v := ?_) rfl (by kernel_rfl) (by kernel_rfl) (by kernel_rfl) (fun _ _ _ h => h) (Or.inl ⟨by rfl, ?_⟩) (by assumption) ?_
    rotate_left
    · intro w hSw
      (try dsimp only at hSw)
      go_simp
      all_goals with_reducible rfl
    try simp only [Act.put, List.setIfInBounds_toArray, List.set_cons_zero, List.set_cons_succ]
    refine wpAnyH_take (i := 19) (oi := { dst := some 74, op := Go.Op.binOp Go.BinOp.add 3 (Go.Operand.tmp 73) (Go.Operand.const (Go.Value.int Go.IntKind.i64 1)) 3, type := 3, pos := "node.go:204", after := #[{ on := 18, ground := Go.Ground.data }], guard := none }) (v := ?_) rfl (by kernel_rfl) (by kernel_rfl) (by kernel_rfl) (fun _ _ _ h => h) (Or.inl ⟨by rfl, ?_⟩) (by assumption) ?_
    rotate_left
    · intro w hSw
      (try dsimp only at hSw)
      go_simp
      all_goals with_reducible rfl
    try simp only [Act.put, List.setIfInBounds_toArray, List.set_cons_zero, List.set_cons_succ]
    refine wpAnyH_take (i := 20) (oi := { dst := some 75, op := Go.Op.slice 25 (Go.Operand.tmp 72) (some (Go.Operand.tmp 74)) none none, type := 25, pos := "node.go:204", after := #[{ on := 17, ground := Go.Ground.data }, { on := 19, ground := Go.Ground.data }], guard := none }) (v := ?_) rfl (by kernel_rfl) (by kernel_rfl) (by kernel_rfl) (fun _ _ _ h => h) (Or.inl ⟨by rfl, ?_⟩) (by assumption) ?_
    rotate_left
    · intro w hSw
      (try dsimp only at hSw)
      go_simp
      all_goals with_reducible rfl
    try simp only [Act.put, List.setIfInBounds_toArray, List.set_cons_zero, List.set_cons_succ]
    refine wpAnyH_take (i := 21) (oi := { dst := some 76, op := Go.Op.build 27 #[(1, Go.Operand.tmp 70), (3, Go.Operand.tmp 75)], type := 27, pos := "node.go:204", after := #[{ on := 15, ground := Go.Ground.data }, { on := 20, ground := Go.Ground.data }], guard := none }) (v := ?_) rfl (by kernel_rfl) (by kernel_rfl) (by kernel_rfl) (fun _ _ _ h => h) (Or.inl ⟨by rfl, ?_⟩) (by assumption) ?_
    rotate_left
    · intro w hSw
      (try dsimp only at hSw)
      go_simp
      all_goals with_reducible rfl
    try simp only [Act.put, List.setIfInBounds_toArray, List.set_cons_zero, List.set_cons_succ]
    refine wpAnyH_take (i := 24) (oi := { dst := some 79, op := Go.Op.move (Go.Operand.tmp 5), type := 9, pos := "node.go:204", after := #[{ on := 25, ground := Go.Ground.gcOnly Go.Departure.lateStores }], guard := none }) (v := ?_) rfl (by kernel_rfl) (by kernel_rfl) (by kernel_rfl) (fun _ _ _ h => h) (Or.inl ⟨by rfl, ?_⟩) (by assumption) ?_
    rotate_left
    · intro w hSw
      (try dsimp only at hSw)
      go_simp
      all_goals with_reducible rfl
    try simp only [Act.put, List.setIfInBounds_toArray, List.set_cons_zero, List.set_cons_succ]
    refine wpAnyH_ready (rs := [10]) (by kernel_rfl) (by simp) ?_
    refine AllReadyH.cons (o := { dst := some 65, op := Go.Op.call { callee := Go.Callee.value (Go.Operand.func 17), args := #[Go.Operand.tmp 64], argTypes := #[27] }, type := 27, pos := "node.go:205", after := #[{ on := 9, ground := Go.Ground.data }], guard := none }) rfl (fun KK hKK => ?_) ?_
    ·
      go_simp
      go_at_call 17
      (with_reducible refine (HCA.out _ KD).mono ?_)
      rintro e v4 ⟨kpA, kcA, vpA, vcA, ipA, icA, rfl, A1, A2, A3, k4⟩
      have J1 := KD.trans k4
      clear HCA
      go_wp2_with fail
      refine hKK.out _ _ ?_ (fun hHeld => ?_)
      · (try dsimp only)
        exact HSA.out _ (by first | assumption | exact Kept.alloc (by assumption) _)
      clear hKK KK
      try simp only [Act.put, List.setIfInBounds_toArray, List.set_cons_zero, List.set_cons_succ]
      refine wpAnyH_ready (rs := [22]) (by kernel_rfl) (by simp) ?_
      refine AllReadyH.cons (o := { dst := some 77, op := Go.Op.call { callee := Go.Callee.value (Go.Operand.func 17), args := #[Go.Operand.tmp 76], argTypes := #[27] }, type := 27, pos := "node.go:206", after := #[{ on := 21, ground := Go.Ground.data }, { on := 10, ground := Go.Ground.chain }], guard := none }) rfl (fun KK hKK => ?_) ?_
      ·
        go_simp
        go_at_call 17
        (with_reducible refine (HCB.out _ J1).mono ?_)
        rintro e v5 ⟨kpB, kcB, vpB, vcB, ipB, icB, rfl, B1, B2, B3, k5⟩
        have J2 := J1.trans k5
        clear J1
        go_wp2_with fail
        refine hKK.out _ _ ?_ (fun hHeld => ?_)
        · (try dsimp only)
          exact HSA.out _ (by first | assumption | exact Kept.alloc (by assumption) _)
        clear hKK KK
        try simp only [Act.put, List.setIfInBounds_toArray, List.set_cons_zero, List.set_cons_succ]
        refine wpAnyH_ready (rs := [23]) (by kernel_rfl) (by simp) ?_
        refine AllReadyH.cons (o := { dst := some 78, op := Go.Op.buildSlice 58 2 #[(0, Go.Operand.tmp 65), (1, Go.Operand.tmp 77)], type := 58, pos := "node.go:204", after := #[{ on := 10, ground := Go.Ground.data }, { on := 22, ground := Go.Ground.data }], guard := none }) rfl (fun KK hKK => ?_) ?_
        ·
          go_simp
          refine hKK.out _ _ ?_ (fun hHeld => ?_)
          · (try dsimp only)
            exact HSA.out _ (by first | assumption | exact Kept.alloc (by assumption) _)
          clear hKK KK
          try simp only [Act.put, List.setIfInBounds_toArray, List.set_cons_zero, List.set_cons_succ]
          refine wpAnyH_take (i := 25) (oi := { dst := some 2, op := Go.Op.assign (Go.Operand.tmp 78), type := 58, pos := "node.go:204", after := #[{ on := 23, ground := Go.Ground.data }, { on := 22, ground := Go.Ground.chain }, { on := 0, ground := Go.Ground.phase }, { on := 1, ground := Go.Ground.phase }, { on := 2, ground := Go.Ground.phase }, { on := 3, ground := Go.Ground.phase }, { on := 4, ground := Go.Ground.phase }, { on := 5, ground := Go.Ground.phase }, { on := 6, ground := Go.Ground.phase }, { on := 7, ground := Go.Ground.phase }, { on := 8, ground := Go.Ground.phase }, { on := 9, ground := Go.Ground.phase }, { on := 10, ground := Go.Ground.phase }, { on := 11, ground := Go.Ground.phase }, { on := 12, ground := Go.Ground.phase }, { on := 13, ground := Go.Ground.phase }, { on := 14, ground := Go.Ground.phase }, { on := 15, ground := Go.Ground.phase }, { on := 16, ground := Go.Ground.phase }, { on := 17, ground := Go.Ground.phase }, { on := 18, ground := Go.Ground.phase }, { on := 19, ground := Go.Ground.phase }, { on := 20, ground := Go.Ground.phase }, { on := 21, ground := Go.Ground.phase }, { on := 22, ground := Go.Ground.phase }, { on := 23, ground := Go.Ground.phase }, { on := 24, ground := Go.Ground.textOnly Go.Departure.lateStores }], guard := none }) (v := ?_) rfl (by kernel_rfl) (by kernel_rfl) (by kernel_rfl) (fun _ _ _ h => h) (Or.inl ⟨by rfl, ?_⟩) (by assumption) ?_
          rotate_left
          · intro w hSw
            (try dsimp only at hSw)
            go_simp
            all_goals with_reducible rfl
          try simp only [Act.put, List.setIfInBounds_toArray, List.set_cons_zero, List.set_cons_succ]
          refine wpAnyH_take (i := 26) (oi := { dst := some 3, op := Go.Op.assign (Go.Operand.tmp 79), type := 9, pos := "node.go:204", after := #[{ on := 24, ground := Go.Ground.data }, { on := 25, ground := Go.Ground.chain }, { on := 0, ground := Go.Ground.phase }, { on := 1, ground := Go.Ground.phase }, { on := 2, ground := Go.Ground.phase }, { on := 3, ground := Go.Ground.phase }, { on := 4, ground := Go.Ground.phase }, { on := 5, ground := Go.Ground.phase }, { on := 6, ground := Go.Ground.phase }, { on := 7, ground := Go.Ground.phase }, { on := 8, ground := Go.Ground.phase }, { on := 9, ground := Go.Ground.phase }, { on := 10, ground := Go.Ground.phase }, { on := 11, ground := Go.Ground.phase }, { on := 12, ground := Go.Ground.phase }, { on := 13, ground := Go.Ground.phase }, { on := 14, ground := Go.Ground.phase }, { on := 15, ground := Go.Ground.phase }, { on := 16, ground := Go.Ground.phase }, { on := 17, ground := Go.Ground.phase }, { on := 18, ground := Go.Ground.phase }, { on := 19, ground := Go.Ground.phase }, { on := 20, ground := Go.Ground.phase }, { on := 21, ground := Go.Ground.phase }, { on := 22, ground := Go.Ground.phase }, { on := 23, ground := Go.Ground.phase }, { on := 24, ground := Go.Ground.phase }, { on := 25, ground := Go.Ground.phase }], guard := none }) (v := ?_) rfl (by kernel_rfl) (by kernel_rfl) (by kernel_rfl) (fun _ _ _ h => h) (Or.inl ⟨by rfl, ?_⟩) (by assumption) ?_
          rotate_left
          · intro w hSw
            (try dsimp only at hSw)
            go_simp
            all_goals with_reducible rfl
          try simp only [Act.put, List.setIfInBounds_toArray, List.set_cons_zero, List.set_cons_succ]
          refine wpAnyH_done (by kernel_rfl) ?_ _
          go_wp2
          go_ret2
          have e1 : x.fst m = ⟨false, x.ks.take m, [], x.is.take (m + 1)⟩ := by unfold Nd.fst; rw [if_neg (by rw [HLF.out]; decide)]
          have e2 : x.snd m = ⟨false, x.ks.drop (m + 1), [], x.is.drop (m + 1)⟩ := by unfold Nd.snd; rw [if_neg (by rw [HLF.out]; decide)]
          have kA := k5.alloc (.cells #[.bool false, .slice kpA m kcA, .slice vpA 0 vcA, .slice ipA (m + 1) icA, .bool false, .slice kpB (nk - (m + 1)) kcB, .slice vpB 0 vcB, .slice ipB (ni1 - (m + 1)) icB] 27)
          have kB := (Kept.refl v5).alloc (.cells #[.bool false, .slice kpA m kcA, .slice vpA 0 vcA, .slice ipA (m + 1) icA, .bool false, .slice kpB (nk - (m + 1)) kcB, .slice vpB 0 vcB, .slice ipB (ni1 - (m + 1)) icB] 27)
          exact ⟨_, m, key, _, _, _, _, _, _, _, _, _, _, _, _, _, _, _, _, _, _, rfl, HKY.out, HM.out, heap_alloc_new v5 _, (by rw [e1]; exact ⟨⟨rfl, (A1.kept kA).rw, (A2.kept kA).rw, (A3.kept kA).rw⟩, A1.z, A2.z, A3.z⟩), (by rw [e2]; exact ⟨⟨rfl, (B1.kept kB).rw, (B2.kept kB).rw, (B3.kept kB).rw⟩, B1.z, B2.z, B3.z⟩), K4.trans (J2.trans kB)⟩
        exact AllReadyH.nil
      exact AllReadyH.nil
    exact AllReadyH.nil
  · skip
    have HCB : Hid (∀ W, Kept v3 W → Calls Try.prog 17 #[.agg #[.bool false, .slice (some ⟨kb, ko + (m + 1), none⟩) (nk - (m + 1)) (kc1 - (m + 1)), .slice none 0 0, .slice (some ⟨ib, io + (m + 1), none⟩) (ni1 - (m + 1)) (ic1 - (m + 1))]] W fun e w' => ∃ kp' kc' vp' vc' ip' ic', e = .returned (.agg #[.bool false, .slice kp' (nk - (m + 1)) kc', .slice vp' 0 vc', .slice ip' (ni1 - (m + 1)) ic']) ∧ Own w' W.heap.size 9 1 kp' (nk - (m + 1)) kc' (kcl (x.ks.drop (m + 1))) ∧ Own w' W.heap.size 49 3 vp' 0 vc' (vcl []) ∧ Own w' W.heap.size 3 1 ip' (ni1 - (m + 1)) ic' (icl (x.is.drop (m + 1))) ∧ Kept W w') := fun W hW => by
      have r1 := row_drop (fun j u hj => hW.cell (HKC.out j u hj)) V3.k.len V3.k.le V3.k.cap (m + 1) (by omega)
      have r2 := row_drop (fun j u hj => hW.cell (HVC.out j u hj)) V3.i.len V3.i.le V3.i.cap (m + 1) (by omega)
      rw [← kcl_drop, Nat.mul_one] at r1
      rw [← icl_drop, Nat.mul_one] at r2
      exact copy_walk r1 ⟨rfl, Nat.le_refl _, Nat.zero_le _, .inl ⟨rfl, rfl⟩⟩ r2 (kcl_one _) (vcl_one _) (icl_one _) (by omega) (by omega) (by omega)
    have KD : Kept v3 v3.drew := (Kept.refl v3).drew
    have HSA : Hid (∀ W, Kept v3 W → W.cell? ⟨w.heap.size, 1, none⟩ = some (.slice (some ⟨kb, ko, none⟩) nk kc1) ∧ W.cell? ⟨w.heap.size, 3, none⟩ = some (.slice (some ⟨ib, io, none⟩) ni1 ic1)) := by
      intro W hW
      exact ⟨(e4.kept hW).cs.2.1, (e4.kept hW).cs.2.2.2⟩
    clear hvc z0 z1 z2 z3 ck e4 V3 hkl hvl hm hni hv2
    refine wp_region_held_drew (S := (fun W => W.cell? ⟨w.heap.size, 1, none⟩ = some (.slice (some ⟨kb, ko, none⟩) nk kc1) ∧ W.cell? ⟨w.heap.size, 3, none⟩ = some (.slice (some ⟨ib, io, none⟩) ni1 ic1))) (by kernel_rfl) ?_ (fun hHeld => ?_)
    · exact HSA.out _ KD
    refine wpAnyH_take (i := 0) (oi := { dst := some 55, op := Go.Op.fieldAddr 27 (Go.Operand.tmp 1) 1, type := 0, pos := "node.go:204", after := #[], guard := none }) (v := ?_) rfl (by kernel_rfl) (by kernel_rfl) (by kernel_rfl) (fun _ _ _ h => h) (Or.inl ⟨by rfl, ?_⟩) (by assumption) ?_
    rotate_left
    · intro w hSw
      (try dsimp only at hSw)
      go_simp
      all_goals with_reducible rfl
    try simp only [Act.put, List.setIfInBounds_toArray, List.set_cons_zero, List.set_cons_succ]
    refine wpAnyH_take (i := 1) (oi := { dst := some 56, op := Go.Op.load 23 (Go.Operand.tmp 55), type := 23, pos := "node.go:204", after := #[{ on := 0, ground := Go.Ground.data }], guard := none }) (v := ?_) rfl (by kernel_rfl) (by kernel_rfl) (by kernel_rfl) (fun _ _ _ h => h) (Or.inl ⟨by rfl, ?_⟩) (by assumption) ?_
    rotate_left
    · intro w hSw
      (try dsimp only at hSw)
      go_simp
      all_goals with_reducible rfl
    try simp only [Act.put, List.setIfInBounds_toArray, List.set_cons_zero, List.set_cons_succ]
    refine wpAnyH_take (i := 2) (oi := { dst := some 57, op := Go.Op.move (Go.Operand.tmp 4), type := 3, pos := "node.go:204", after := #[], guard := none }) (v := ?_) rfl (by kernel_rfl) (by kernel_rfl) (by kernel_rfl) (fun _ _ _ h => h) (Or.inl ⟨by rfl, ?_⟩) (by assumption) ?_
    rotate_left
    · intro w hSw
      (try dsimp only at hSw)
      go_simp
      all_goals with_reducible rfl
    try simp only [Act.put, List.setIfInBounds_toArray, List.set_cons_zero, List.set_cons_succ]
    refine wpAnyH_take (i := 3) (oi := { dst := some 58, op := Go.Op.slice 23 (Go.Operand.tmp 56) none (some (Go.Operand.tmp 57)) none, type := 23, pos := "node.go:204", after := #[{ on := 1, ground := Go.Ground.data }, { on := 2, ground := Go.Ground.data }], guard := none }) (v := ?_) rfl (by kernel_rfl) (by kernel_rfl) (by kernel_rfl) (fun _ _ _ h => h) (Or.inl ⟨by rfl, ?_⟩) (by assumption) ?_
    rotate_left
    · intro w hSw
      (try dsimp only at hSw)
      go_simp
      all_goals with_reducible rfl
    try simp only [Act.put, List.setIfInBounds_toArray, List.set_cons_zero, List.set_cons_succ]
    refine wpAnyH_take (i := 4) (oi := { dst := some 59, op := Go.Op.fieldAddr 27 (Go.Operand.tmp 1) 3, type := 0, pos := "node.go:204", after := #[], guard := none }) (v := ?_) rfl (by kernel_rfl) (by kernel_rfl) (by kernel_rfl) (fun _ _ _ h => h) (Or.inl ⟨by rfl, ?_⟩) (by assumption) ?_
    rotate_left
    · intro w hSw
      (try dsimp only at hSw)
      go_simp
      all_goals with_reducible rfl
    try simp only [Act.put, List.setIfInBounds_toArray, List.set_cons_zero, List.set_cons_succ]
    refine wpAnyH_take (i := 5) (oi := { dst := some 60, op := Go.Op.load 25 (Go.Operand.tmp 59), type := 25, pos := "node.go:204", after := #[{ on := 4, ground := Go.Ground.data }], guard := none }) (v := ?_) rfl (by kernel_rfl) (by kernel_rfl) (by kernel_rfl) (fun _ _ _ h => h) (Or.inl ⟨by rfl, ?_⟩) (by assumption) ?_
    rotate_left
    · intro w hSw
      (try dsimp only at hSw)
      go_simp
      all_goals with_reducible rfl
    try simp only [Act.put, List.setIfInBounds_toArray, List.set_cons_zero, List.set_cons_succ]
    refine wpAnyH_take (i := 6) (oi := { dst := some 61, op := Go.Op.move (Go.Operand.tmp 4), type := 3, pos := "node.go:204", after := #[], guard := none }) (v := ?_) rfl (by kernel_rfl) (by kernel_rfl) (by kernel_rfl) (fun _ _ _ h => h) (Or.inl ⟨by rfl, ?_⟩) (by assumption) ?_
    rotate_left
    · intro w hSw
      (try dsimp only at hSw)
      go_simp
      all_goals with_reducible rfl
    try simp only [Act.put, List.setIfInBounds_toArray, List.set_cons_zero, List.set_cons_succ]
    refine wpAnyH_take (i := 7) (oi := { dst := some 62, op := Go.Op.binOp Go.BinOp.add 3 (Go.Operand.tmp 61) (Go.Operand.const (Go.Value.int Go.IntKind.i64 1)) 3, type := 3, pos := "node.go:204", after := #[{ on := 6, ground := Go.Ground.data }], guard := none }) (v := ?_) rfl (by kernel_rfl) (by kernel_rfl) (by kernel_rfl) (fun _ _ _ h => h) (Or.inl ⟨by rfl, ?_⟩) (by assumption) ?_
    rotate_left
    · intro w hSw
      (try dsimp only at hSw)
      go_simp
      all_goals with_reducible rfl
    try simp only [Act.put, List.setIfInBounds_toArray, List.set_cons_zero, List.set_cons_succ]
    refine wpAnyH_take (i := 8) (oi := { dst := some 63, op := Go.Op.slice 25 (Go.Operand.tmp 60) none (some (Go.Operand.tmp 62)) none, type := 25, pos := "node.go:204", after := #[{ on := 5, ground := Go.Ground.data }, { on := 7, ground := Go.Ground.data }], guard := none }) (v := ?_) rfl (by kernel_rfl) (by kernel_rfl) (by kernel_rfl) (fun _ _ _ h => h) (Or.inl ⟨by rfl, ?_⟩) (by assumption) ?_
    rotate_left
    · intro w hSw
      (try dsimp only at hSw)
      go_simp
      all_goals with_reducible rfl
    try simp only [Act.put, List.setIfInBounds_toArray, List.set_cons_zero, List.set_cons_succ]
    refine wpAnyH_take (i := 9) (oi := { dst := some 64, op := Go.Op.build 27 #[(1, Go.Operand.tmp 58), (3, Go.Operand.tmp 63)], type := 27, pos := "node.go:204", after := #[{ on := 3, ground := Go.Ground.data }, { on := 8, ground := Go.Ground.data }], guard := none }) (v := ?_) rfl (by kernel_rfl) (by kernel_rfl) (by kernel_rfl) (fun _ _ _ h => h) (Or.inl ⟨by rfl, ?_⟩) (by assumption) ?_
    rotate_left
    · intro w hSw
      (try dsimp only at hSw)
      go_simp
      all_goals with_reducible rfl
    try simp only [Act.put, List.setIfInBounds_toArray, List.set_cons_zero, List.set_cons_succ]
    refine wpAnyH_take (i := 11) (oi := { dst := some 66, op := Go.Op.fieldAddr 27 (Go.Operand.tmp 1) 1, type := 0, pos := "node.go:204", after := #[], guard := none }) (v := ?_) rfl (by kernel_rfl) (by kernel_rfl) (by kernel_rfl) (fun _ _ _ h => h) (Or.inl ⟨by rfl, ?_⟩) (by assumption) ?_
    rotate_left
    · intro w hSw
      (try dsimp only at hSw)
      go_simp
      all_goals with_reducible rfl
    try simp only [Act.put, List.setIfInBounds_toArray, List.set_cons_zero, List.set_cons_succ]
    refine wpAnyH_take (i := 12) (oi := { dst := some 67, op := Go.Op.load 23 (Go.Operand.tmp 66), type := 23, pos := "node.go:204", after := #[{ on := 11, ground := Go.Ground.data }], guard := none }) (v := ?_) rfl (by kernel_rfl) (by kernel_rfl) (by kernel_rfl) (fun _ _ _ h => h) (Or.inl ⟨by rfl, ?_⟩) (by assumption) ?_
    rotate_left
    · intro w hSw
      (try dsimp only at hSw)
      go_simp
      all_goals with_reducible rfl
    try simp only [Act.put, List.setIfInBounds_toArray, List.set_cons_zero, List.set_cons_succ]
    refine wpAnyH_take (i := 13) (oi := { dst := some 68, op := Go.Op.move (Go.Operand.tmp 4), type := 3, pos := "node.go:204", after := #[], guard := none }) (v := ?_) rfl (by kernel_rfl) (by kernel_rfl) (by kernel_rfl) (fun _ _ _ h => h) (Or.inl ⟨by rfl, ?_⟩) (by assumption) ?_
    rotate_left
    · intro w hSw
      (try dsimp only at hSw)
      go_simp
      all_goals with_reducible rfl
    try simp only [Act.put, List.setIfInBounds_toArray, List.set_cons_zero, List.set_cons_succ]
    refine wpAnyH_take (i := 14) (oi := { dst := some 69, op := Go.Op.binOp Go.BinOp.add 3 (Go.Operand.tmp 68) (Go.Operand.const (Go.Value.int Go.IntKind.i64 1)) 3, type := 3, pos := "node.go:204", after := #[{ on := 13, ground := Go.Ground.data }], guard := none }) (v := ?_) rfl (by kernel_rfl) (by kernel_rfl) (by kernel_rfl) (fun _ _ _ h => h) (Or.inl ⟨by rfl, ?_⟩) (by assumption) ?_
    rotate_left
    · intro w hSw
      (try dsimp only at hSw)
      go_simp
      all_goals with_reducible rfl
    try simp only [Act.put, List.setIfInBounds_toArray, List.set_cons_zero, List.set_cons_succ]
    refine wpAnyH_take (i := 15) (oi := { dst := some 70, op := Go.Op.slice 23 (Go.Operand.tmp 67) (some (Go.Operand.tmp 69)) none none, type := 23, pos := "node.go:204", after := #[{ on := 12, ground := Go.Ground.data }, { on := 14, ground := Go.Ground.data }], guard := none }) (v := ?_) rfl (by kernel_rfl) (by kernel_rfl) (by kernel_rfl) (fun _ _ _ h => h) (Or.inl ⟨by rfl, ?_⟩) (by assumption) ?_
    rotate_left
    · intro w hSw
      (try dsimp only at hSw)
      go_simp
      all_goals with_reducible rfl
    try simp only [Act.put, List.setIfInBounds_toArray, List.set_cons_zero, List.set_cons_succ]
    refine wpAnyH_take (i := 16) (oi := { dst := some 71, op := Go.Op.fieldAddr 27 (Go.Operand.tmp 1) 3, type := 0, pos := "node.go:204", after := #[], guard := none }) (v := ?_) rfl (by kernel_rfl) (by kernel_rfl) (by kernel_rfl) (fun _ _ _ h => h) (Or.inl ⟨by rfl, ?_⟩) (by assumption) ?_
    rotate_left
    · intro w hSw
      (try dsimp only at hSw)
      go_simp
      all_goals with_reducible rfl
    try simp only [Act.put, List.setIfInBounds_toArray, List.set_cons_zero, List.set_cons_succ]
    refine wpAnyH_take (i := 17) (oi := { dst := some 72, op := Go.Op.load 25 (Go.Operand.tmp 71), type := 25, pos := "node.go:204", after := #[{ on := 16, ground := Go.Ground.data }], guard := none }) (v := ?_) rfl (by kernel_rfl) (by kernel_rfl) (by kernel_rfl) (fun _ _ _ h => h) (Or.inl ⟨by rfl, ?_⟩) (by assumption) ?_
    rotate_left
    · intro w hSw
      (try dsimp only at hSw)
      go_simp
      all_goals with_reducible rfl
    try simp only [Act.put, List.setIfInBounds_toArray, List.set_cons_zero, List.set_cons_succ]
    refine wpAnyH_take (i := 18) (oi := { dst := some 73, op := Go.Op.move (Go.Operand.tmp 4), type := 3, pos := "node.go:204", after := #[], guard := none }) (v := ?_) rfl (by kernel_rfl) (by kernel_rfl) (by kernel_rfl) (fun _ _ _ h => h) (Or.inl ⟨by rfl, ?_⟩) (by assumption) ?_
    rotate_left
    · intro w hSw
      (try dsimp only at hSw)
      go_simp
      all_goals with_reducible rfl
    try simp only [Act.put, List.setIfInBounds_toArray, List.set_cons_zero, List.set_cons_succ]
    refine wpAnyH_take (i := 19) (oi := { dst := some 74, op := Go.Op.binOp Go.BinOp.add 3 (Go.Operand.tmp 73) (Go.Operand.const (Go.Value.int Go.IntKind.i64 1)) 3, type := 3, pos := "node.go:204", after := #[{ on := 18, ground := Go.Ground.data }], guard := none }) (v := ?_) rfl (by kernel_rfl) (by kernel_rfl) (by kernel_rfl) (fun _ _ _ h => h) (Or.inl ⟨by rfl, ?_⟩) (by assumption) ?_
    rotate_left
    · intro w hSw
      (try dsimp only at hSw)
      go_simp
      all_goals with_reducible rfl
    try simp only [Act.put, List.setIfInBounds_toArray, List.set_cons_zero, List.set_cons_succ]
    refine wpAnyH_take (i := 20) (oi := { dst := some 75, op := Go.Op.slice 25 (Go.Operand.tmp 72) (some (Go.Operand.tmp 74)) none none, type := 25, pos := "node.go:204", after := #[{ on := 17, ground := Go.Ground.data }, { on := 19, ground := Go.Ground.data }], guard := none }) (v := ?_) rfl (by kernel_rfl) (by kernel_rfl) (by kernel_rfl) (fun _ _ _ h => h) (Or.inl ⟨by rfl, ?_⟩) (by assumption) ?_
    rotate_left
    · intro w hSw
      (try dsimp only at hSw)
      go_simp
      all_goals with_reducible rfl
    try simp only [Act.put, List.setIfInBounds_toArray, List.set_cons_zero, List.set_cons_succ]
    refine wpAnyH_take (i := 21) (oi := { dst := some 76, op := Go.Op.build 27 #[(1, Go.Operand.tmp 70), (3, Go.Operand.tmp 75)], type := 27, pos := "node.go:204", after := #[{ on := 15, ground := Go.Ground.data }, { on := 20, ground := Go.Ground.data }], guard := none }) (v := ?_) rfl (by kernel_rfl) (by kernel_rfl) (by kernel_rfl) (fun _ _ _ h => h) (Or.inl ⟨by rfl, ?_⟩) (by assumption) ?_
    rotate_left
    · intro w hSw
      (try dsimp only at hSw)
      go_simp
      all_goals with_reducible rfl
    try simp only [Act.put, List.setIfInBounds_toArray, List.set_cons_zero, List.set_cons_succ]
    refine wpAnyH_take (i := 24) (oi := { dst := some 79, op := Go.Op.move (Go.Operand.tmp 5), type := 9, pos := "node.go:204", after := #[{ on := 25, ground := Go.Ground.gcOnly Go.Departure.lateStores }], guard := none }) (v := ?_) rfl (by kernel_rfl) (by kernel_rfl) (by kernel_rfl) (fun _ _ _ h => h) (Or.inl ⟨by rfl, ?_⟩) (by assumption) ?_
    rotate_left
    · intro w hSw
      (try dsimp only at hSw)
      go_simp
      all_goals with_reducible rfl
    try simp only [Act.put, List.setIfInBounds_toArray, List.set_cons_zero, List.set_cons_succ]
    refine wpAnyH_ready (rs := [10]) (by kernel_rfl) (by simp) ?_
    refine AllReadyH.cons (o := { dst := some 65, op := Go.Op.call { callee := Go.Callee.value (Go.Operand.func 17), args := #[Go.Operand.tmp 64], argTypes := #[27] }, type := 27, pos := "node.go:205", after := #[{ on := 9, ground := Go.Ground.data }], guard := none }) rfl (fun KK hKK => ?_) ?_
    ·
      go_simp
      go_at_call 17
      (with_reducible refine (HCA.out _ KD).mono ?_)
      rintro e v4 ⟨kpA, kcA, vpA, vcA, ipA, icA, rfl, A1, A2, A3, k4⟩
      have J1 := KD.trans k4
      clear HCA
      go_wp2_with fail
      refine hKK.out _ _ ?_ (fun hHeld => ?_)
      · (try dsimp only)
        exact HSA.out _ (by first | assumption | exact Kept.alloc (by assumption) _)
      clear hKK KK
      try simp only [Act.put, List.setIfInBounds_toArray, List.set_cons_zero, List.set_cons_succ]
      refine wpAnyH_ready (rs := [22]) (by kernel_rfl) (by simp) ?_
      refine AllReadyH.cons (o := { dst := some 77, op := Go.Op.call { callee := Go.Callee.value (Go.Operand.func 17), args := #[Go.Operand.tmp 76], argTypes := #[27] }, type := 27, pos := "node.go:206", after := #[{ on := 21, ground := Go.Ground.data }, { on := 10, ground := Go.Ground.chain }], guard := none }) rfl (fun KK hKK => ?_) ?_
      ·
        go_simp
        go_at_call 17
        (with_reducible refine (HCB.out _ J1).mono ?_)
        rintro e v5 ⟨kpB, kcB, vpB, vcB, ipB, icB, rfl, B1, B2, B3, k5⟩
        have J2 := J1.trans k5
        clear J1
        go_wp2_with fail
        refine hKK.out _ _ ?_ (fun hHeld => ?_)
        · (try dsimp only)
          exact HSA.out _ (by first | assumption | exact Kept.alloc (by assumption) _)
        clear hKK KK
        try simp only [Act.put, List.setIfInBounds_toArray, List.set_cons_zero, List.set_cons_succ]
        refine wpAnyH_ready (rs := [23]) (by kernel_rfl) (by simp) ?_
        refine AllReadyH.cons (o := { dst := some 78, op := Go.Op.buildSlice 58 2 #[(0, Go.Operand.tmp 65), (1, Go.Operand.tmp 77)], type := 58, pos := "node.go:204", after := #[{ on := 10, ground := Go.Ground.data }, { on := 22, ground := Go.Ground.data }], guard := none }) rfl (fun KK hKK => ?_) ?_
        ·
          go_simp
          refine hKK.out _ _ ?_ (fun hHeld => ?_)
          · (try dsimp only)
            exact HSA.out _ (by first | assumption | exact Kept.alloc (by assumption) _)
          clear hKK KK
          try simp only [Act.put, List.setIfInBounds_toArray, List.set_cons_zero, List.set_cons_succ]
          refine wpAnyH_take (i := 25) (oi := { dst := some 2, op := Go.Op.assign (Go.Operand.tmp 78), type := 58, pos := "node.go:204", after := #[{ on := 23, ground := Go.Ground.data }, { on := 22, ground := Go.Ground.chain }, { on := 0, ground := Go.Ground.phase }, { on := 1, ground := Go.Ground.phase }, { on := 2, ground := Go.Ground.phase }, { on := 3, ground := Go.Ground.phase }, { on := 4, ground := Go.Ground.phase }, { on := 5, ground := Go.Ground.phase }, { on := 6, ground := Go.Ground.phase }, { on := 7, ground := Go.Ground.phase }, { on := 8, ground := Go.Ground.phase }, { on := 9, ground := Go.Ground.phase }, { on := 10, ground := Go.Ground.phase }, { on := 11, ground := Go.Ground.phase }, { on := 12, ground := Go.Ground.phase }, { on := 13, ground := Go.Ground.phase }, { on := 14, ground := Go.Ground.phase }, { on := 15, ground := Go.Ground.phase }, { on := 16, ground := Go.Ground.phase }, { on := 17, ground := Go.Ground.phase }, { on := 18, ground := Go.Ground.phase }, { on := 19, ground := Go.Ground.phase }, { on := 20, ground := Go.Ground.phase }, { on := 21, ground := Go.Ground.phase }, { on := 22, ground := Go.Ground.phase }, { on := 23, ground := Go.Ground.phase }, { on := 24, ground := Go.Ground.textOnly Go.Departure.lateStores }], guard := none }) (v := ?_) rfl (by kernel_rfl) (by kernel_rfl) (by kernel_rfl) (fun _ _ _ h => h) (Or.inl ⟨by rfl, ?_⟩) (by assumption) ?_
          rotate_left
          · intro w hSw
            (try dsimp only at hSw)
            go_simp
            all_goals with_reducible rfl
          try simp only [Act.put, List.setIfInBounds_toArray, List.set_cons_zero, List.set_cons_succ]
          refine wpAnyH_take (i := 26) (oi := { dst := some 3, op := Go.Op.assign (Go.Operand.tmp 79), type := 9, pos := "node.go:204", after := #[{ on := 24, ground := Go.Ground.data }, { on := 25, ground := Go.Ground.chain }, { on := 0, ground := Go.Ground.phase }, { on := 1, ground := Go.Ground.phase }, { on := 2, ground := Go.Ground.phase }, { on := 3, ground := Go.Ground.phase }, { on := 4, ground := Go.Ground.phase }, { on := 5, ground := Go.Ground.phase }, { on := 6, ground := Go.Ground.phase }, { on := 7, ground := Go.Ground.phase }, { on := 8, ground := Go.Ground.phase }, { on := 9, ground := Go.Ground.phase }, { on := 10, ground := Go.Ground.phase }, { on := 11, ground := Go.Ground.phase }, { on := 12, ground := Go.Ground.phase }, { on := 13, ground := Go.Ground.phase }, { on := 14, ground := Go.Ground.phase }, { on := 15, ground := Go.Ground.phase }, { on := 16, ground := Go.Ground.phase }, { on := 17, ground := Go.Ground.phase }, { on := 18, ground := Go.Ground.phase }, { on := 19, ground := Go.Ground.phase }, { on := 20, ground := Go.Ground.phase }, { on := 21, ground := Go.Ground.phase }, { on := 22, ground := Go.Ground.phase }, { on := 23, ground := Go.Ground.phase }, { on := 24, ground := Go.Ground.phase }, { on := 25, ground := Go.Ground.phase }], guard := none }) (v := ?_) rfl (by kernel_rfl) (by kernel_rfl) (by kernel_rfl) (fun _ _ _ h => h) (Or.inl ⟨by rfl, ?_⟩) (by assumption) ?_
          rotate_left
          · intro w hSw
            (try dsimp only at hSw)
            go_simp
            all_goals with_reducible rfl
          try simp only [Act.put, List.setIfInBounds_toArray, List.set_cons_zero, List.set_cons_succ]
          refine wpAnyH_done (by kernel_rfl) ?_ _
          go_wp2
          go_ret2
          have e1 : x.fst m = ⟨false, x.ks.take m, [], x.is.take (m + 1)⟩ := by unfold Nd.fst; rw [if_neg (by rw [HLF.out]; decide)]
          have e2 : x.snd m = ⟨false, x.ks.drop (m + 1), [], x.is.drop (m + 1)⟩ := by unfold Nd.snd; rw [if_neg (by rw [HLF.out]; decide)]
          have kA := k5.alloc (.cells #[.bool false, .slice kpA m kcA, .slice vpA 0 vcA, .slice ipA (m + 1) icA, .bool false, .slice kpB (nk - (m + 1)) kcB, .slice vpB 0 vcB, .slice ipB (ni1 - (m + 1)) icB] 27)
          have kB := (Kept.refl v5).alloc (.cells #[.bool false, .slice kpA m kcA, .slice vpA 0 vcA, .slice ipA (m + 1) icA, .bool false, .slice kpB (nk - (m + 1)) kcB, .slice vpB 0 vcB, .slice ipB (ni1 - (m + 1)) icB] 27)
          exact ⟨_, m, key, _, _, _, _, _, _, _, _, _, _, _, _, _, _, _, _, _, _, rfl, HKY.out, HM.out, heap_alloc_new v5 _, (by rw [e1]; exact ⟨⟨rfl, (A1.kept kA).rw, (A2.kept kA).rw, (A3.kept kA).rw⟩, A1.z, A2.z, A3.z⟩), (by rw [e2]; exact ⟨⟨rfl, (B1.kept kB).rw, (B2.kept kB).rw, (B3.kept kB).rw⟩, B1.z, B2.z, B3.z⟩), K4.trans (J2.trans kB)⟩
        exact AllReadyH.nil
      exact AllReadyH.nil
    exact AllReadyH.nil

theorem part_walk {w : World} {l : Bool} {kp : Option Addr} {nk kc : Nat} {vp : Option Addr} {nv vc : Nat} {ip : Option Addr} {ni ic : Nat} {x : Nd} (h : NV w l kp nk kc vp nv vc ip ni ic x) (g : Good x) (hbig : 237 < x.put.length) :
    Calls Try.prog 23 #[.agg #[.bool l, .slice kp nk kc, .slice vp nv vc, .slice ip ni ic]] w fun e w' => ∃ (g m : Nat) (key : ByteArray) (kpA : Option Addr) (nkA kcA : Nat) (vpA : Option Addr) (nvA vcA : Nat) (ipA : Option Addr) (niA icA : Nat) (kpB : Option Addr) (nkB kcB : Nat) (vpB : Option Addr) (nvB vcB : Nat) (ipB : Option Addr) (niB icB : Nat), e = .returned (.tuple #[.slice (some ⟨g, 0, none⟩) 2 2, .string key]) ∧ x.ks[m]? = some key ∧ Mid x 0 m ∧ w'.heap[g]? = some (.cells #[.bool l, .slice kpA nkA kcA, .slice vpA nvA vcA, .slice ipA niA icA, .bool l, .slice kpB nkB kcB, .slice vpB nvB vcB, .slice ipB niB icB] 27) ∧ NZ w' l kpA nkA kcA vpA nvA vcA ipA niA icA (x.fst m) ∧ NZ w' l kpB nkB kcB vpB nvB vcB ipB niB icB (x.snd m) ∧ Kept w w' := by
  cases l with
  | true => exact part_true h g hbig
  | false => exact part_false h g hbig
end Go.Proofs.Ytgcfollelefmcaa
