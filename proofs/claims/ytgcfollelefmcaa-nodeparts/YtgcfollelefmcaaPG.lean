/- The walk of the law on Part, where the node is not too great. Conditions: the list is in memory. -/
import Derived.Test.YtgcfollelefmcaaPE
import Derived.Test.YtgcfollelefmcaaPF
import Derived.Test.YtgcfollelefmcaaEmpty
namespace Go.Proofs.Ytgcfollelefmcaa
open Go.ChangeShapes Go.WideShapes Go.ChangeAt Go.RowKit

theorem eitherP_le (L : List Ki) (l : Bool) : (eitherP L l).ks.length ≤ 40 := by
  have y := (leafP_few L).1
  unfold eitherP
  cases l with
  | true => exact y
  | false => exact y
theorem eitherP_kind (L : List Ki) (l : Bool) : (eitherP L l).leaf = l := by
  unfold eitherP
  cases l <;> rfl
theorem NV.few {w : World} {l : Bool} {kp : Option Addr} {nk kc : Nat} {vp : Option Addr} {nv vc : Nat} {ip : Option Addr} {ni ic : Nat} {x : Nd} (h : NV w l kp nk kc vp nv vc ip ni ic x) (g : Good x) : nk ≤ 1000 ∧ nv ≤ 1000 ∧ ni ≤ 1000 := by
  have f := g.few
  have a := h.nk
  have b := h.nv
  have c := h.ni
  cases hx : x.leaf with
  | true => have := (g.lv hx).1; have d := (g.lv hx).2; rw [d] at c; simp at c; omega
  | false => have := (g.li hx).1; have d := (g.li hx).2; rw [d] at b; simp at b; omega

set_option maxHeartbeats 4000000 in
set_option maxRecDepth 100000 in
theorem parts_small {w : World} {p : Option Addr} {n c : Nat} {L : List Ki} (h : Gw w p n c L) (l : Bool) (hs : (eitherP L l).put.length ≤ 237) :
    Calls Try.prog 6 #[.slice p n c, .bool l] w fun e w' => e = .returned (.bool true) ∧ Kept w w' := by
  have HE := either_gw h l
  have g := eitherP_good L l
  generalize eitherP L l = x at *
  have HREF : Hid (∀ (W : World) (kp : Option Addr) (nk kc : Nat) (vp : Option Addr) (nv vc : Nat) (ip : Option Addr) (ni ic : Nat), NV W l kp nk kc vp nv vc ip ni ic x → Calls Try.prog 13 #[.agg #[.bool l, .slice kp nk kc, .slice vp nv vc, .slice ip ni ic]] W fun e w' => ∃ vp' vc', e = .returned (.agg #[.bool l, .slice kp nk kc, .slice vp' nv vc', .slice ip ni ic]) ∧ NV w' l kp nk kc vp' nv vc' ip ni ic x ∧ Kept W w') := fun W kp nk kc vp nv vc ip ni ic h => ref_walk h (h.few g).2.1
  have HSM : Hid (∀ (W : World) (kp : Option Addr) (nk kc : Nat) (vp : Option Addr) (nv vc : Nat) (ip : Option Addr) (ni ic : Nat) (kp2 : Option Addr) (nk2 kc2 : Nat) (vp2 : Option Addr) (nv2 vc2 : Nat) (ip2 : Option Addr) (ni2 ic2 : Nat), NV W l kp nk kc vp nv vc ip ni ic x → NV W l kp2 nk2 kc2 vp2 nv2 vc2 ip2 ni2 ic2 x → Calls Try.prog 14 #[.agg #[.bool l, .slice kp nk kc, .slice vp nv vc, .slice ip ni ic], .agg #[.bool l, .slice kp2 nk2 kc2, .slice vp2 nv2 vc2, .slice ip2 ni2 ic2]] W fun e w' => e = .returned (.bool true) ∧ Kept W w') := fun W kp nk kc vp nv vc ip ni ic kp2 nk2 kc2 vp2 nv2 vc2 ip2 ni2 ic2 h h2 => same_true h h2 (h.few g).1 (h.few g).2.1 (h.few g).2.2
  have HRP : Hid (∀ (W : World) (kp : Option Addr) (nk kc : Nat) (vp : Option Addr) (nv vc : Nat) (ip : Option Addr) (ni ic : Nat), NV W l kp nk kc vp nv vc ip ni ic x → Calls Try.prog 22 #[.agg #[.bool l, .slice kp nk kc, .slice vp nv vc, .slice ip ni ic]] W fun e w' => e = .returned (.int .i64 (-1)) ∧ Kept W w') := fun W kp nk kc vp nv vc ip ni ic h => refpart_small h g hs
  have HPT : Hid (∀ (W : World) (kp : Option Addr) (nk kc : Nat) (vp : Option Addr) (nv vc : Nat) (ip : Option Addr) (ni ic : Nat), NV W l kp nk kc vp nv vc ip ni ic x → Calls Try.prog 23 #[.agg #[.bool l, .slice kp nk kc, .slice vp nv vc, .slice ip ni ic]] W fun e w' => ∃ (g : Nat) (kp' : Option Addr) (kc' : Nat) (vp' : Option Addr) (nv' vc' : Nat) (ip' : Option Addr) (ni' ic' : Nat), e = .returned (.tuple #[.slice (some ⟨g, 0, none⟩) 1 1, .string ⟨#[]⟩]) ∧ C4 w' g 27 (.bool l) (.slice kp' nk kc') (.slice vp' nv' vc') (.slice ip' ni' ic') ∧ NV w' l kp' nk kc' vp' nv' vc' ip' ni' ic' x ∧ Kept W w') := fun W kp nk kc vp nv vc ip ni ic h => part_small h g hs
  clear g h hs
  go_enter Try.func6, Try.ntmps6
  go_wp2_with (first
    | (go_at_call 8
       (with_reducible refine HE.mono ?_)
       rintro e v1 ⟨kp, nk, kc, vp, nv, vc, ip, ni, ic, rfl, N1, k1⟩
       have k1a := (Kept.refl v1).alloc (.cells #[.bool l, .slice kp nk kc, .slice vp nv vc, .slice ip ni ic] 27)
       have X1 := C4.alloc v1 27 (.bool l) (.slice kp nk kc) (.slice vp nv vc) (.slice ip ni ic)
       have N1 := N1.kept k1a
       have K1 := k1.trans k1a
       clear HE k1 k1a)
    | (go_at_call 13
       (with_reducible refine (HREF.out _ _ _ _ _ _ _ _ _ _ N1).mono ?_)
       rintro e v2 ⟨vpq, vcq, rfl, Dq, k2⟩
       have X2 := X1.kept k2
       have N2 := N1.kept k2
       have K2 := K1.trans k2
       clear X1 N1 K1 k2)
    | (go_at_call 22
       (with_reducible refine (HRP.out _ _ _ _ _ _ _ _ _ _ Dq).mono ?_)
       rintro e v3 ⟨rfl, k3⟩
       have X3 := X2.kept k3
       have N3 := N2.kept k3
       have K3 := K2.trans k3
       obtain ⟨a0, a1, a2, a3⟩ := X3.cs
       clear X2 N2 K2 k3 HRP Dq)
    | (go_at_call 23
       (with_reducible refine (HPT.out _ _ _ _ _ _ _ _ _ _ N3).mono ?_)
       rintro e v4 ⟨g, kp4, kc4, vp4, nv4, vc4, ip4, ni4, ic4, rfl, Y4, M4, k4⟩
       have X4 := X3.kept k4
       have N4 := N3.kept k4
       have K4 := K3.trans k4
       clear X3 N3 K3 k4 HPT a0 a1 a2 a3))
  generalize v1.heap.size = b5 at *
  have KD : Kept v4 v4.drew := (Kept.refl v4).drew
  have HSA : Hid (∀ W, Kept v4 W → W.cell? ⟨b5, 0, none⟩ = some (.bool l) ∧ W.cell? ⟨b5, 1, none⟩ = some (.slice kp nk kc) ∧ W.cell? ⟨b5, 2, none⟩ = some (.slice vp nv vc) ∧ W.cell? ⟨b5, 3, none⟩ = some (.slice ip ni ic) ∧ W.cell? ⟨g, 0, none⟩ = some (.bool l) ∧ W.cell? ⟨g, 1, none⟩ = some (.slice kp4 nk kc4) ∧ W.cell? ⟨g, 2, none⟩ = some (.slice vp4 nv4 vc4) ∧ W.cell? ⟨g, 3, none⟩ = some (.slice ip4 ni4 ic4)) := by
    intro W hW
    obtain ⟨z0, z1, z2, z3⟩ := (X4.kept hW).cs
    obtain ⟨y0, y1, y2, y3⟩ := (Y4.kept hW).cs
    exact ⟨z0, z1, z2, z3, y0, y1, y2, y3⟩
  go_region_held3 (fun W => W.cell? ⟨b5, 0, none⟩ = some (.bool l) ∧ W.cell? ⟨b5, 1, none⟩ = some (.slice kp nk kc) ∧ W.cell? ⟨b5, 2, none⟩ = some (.slice vp nv vc) ∧ W.cell? ⟨b5, 3, none⟩ = some (.slice ip ni ic) ∧ W.cell? ⟨g, 0, none⟩ = some (.bool l) ∧ W.cell? ⟨g, 1, none⟩ = some (.slice kp4 nk kc4) ∧ W.cell? ⟨g, 2, none⟩ = some (.slice vp4 nv4 vc4) ∧ W.cell? ⟨g, 3, none⟩ = some (.slice ip4 ni4 ic4)) (exact HSA.out _ (by assumption)) (first
    | (go_at_call 11
       (with_reducible refine (awake_walk _).mono ?_)
       rintro e y1 ⟨rfl, j1⟩
       have J1 := KD.trans j1
       clear j1)
    | (go_at_call 13
       (with_reducible refine (HREF.out _ _ _ _ _ _ _ _ _ _ (M4.kept J1)).mono ?_)
       rintro e y2 ⟨vpa, vca, rfl, Da, j2⟩
       have J2 := J1.trans j2
       clear J1 j2)
    | (go_at_call 13
       (with_reducible refine (HREF.out _ _ _ _ _ _ _ _ _ _ (N4.kept J2)).mono ?_)
       rintro e y3 ⟨vpb, vcb, rfl, Db, j3⟩
       have J3 := J2.trans j3
       have Da3 := Da.kept j3
       clear J2 j3 Da)
    | (go_at_call 14
       (with_reducible refine (HSM.out _ _ _ _ _ _ _ _ _ _ _ _ _ _ _ _ _ _ _ Da3 Db).mono ?_)
       rintro e y4 ⟨rfl, j4⟩
       have J4 := J3.trans j4
       clear J3 j4))
  go_wp2
  go_ret
  exact ⟨rfl, K4.trans J4⟩
end Go.Proofs.Ytgcfollelefmcaa
