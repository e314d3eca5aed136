/- The walk of the law on Put and Get. Conditions: the list is in memory. -/
import Derived.Test.YtgcfollelefmcaaNX
import Derived.Test.YtgcfollelefmcaaEmpty
namespace Go.Proofs.Ytgcfollelefmcaa
open Go.ChangeShapes Go.WideShapes Go.ChangeAt Go.RowKit

theorem eitherP_up (L : List Ki) (l : Bool) : Up (eitherP L l).ks := by
  have y := (leafP_leafy (L.take 40)).up
  unfold eitherP
  cases l with
  | true => exact y
  | false => exact y
theorem eitherP_few (L : List Ki) (l : Bool) : (eitherP L l).ks.length ≤ 40 := by
  have y := (leafP_few L).1
  unfold eitherP
  cases l with
  | true => exact y
  | false => exact y
theorem eitherP_leaf (L : List Ki) (l : Bool) : (eitherP L l).leaf = l := by
  unfold eitherP
  cases l <;> rfl

set_option maxHeartbeats 4000000 in
set_option maxRecDepth 100000 in
theorem puts_walk {w : World} {p : Option Addr} {n c : Nat} {L : List Ki} (h : Gw w p n c L) (l : Bool) :
    Calls Try.prog 3 #[.slice p n c, .bool l] w fun e w' => e = .returned (.bool true) ∧ Kept w w' := by
  have HE := either_gw h l
  have g := eitherP_good L l
  have hup := eitherP_up L l
  have hfew := eitherP_few L l
  have hlf := eitherP_leaf L l
  generalize eitherP L l = x at *
  have HP : Hid (∀ (W : World) (kp : Option Addr) (nk kc : Nat) (vp : Option Addr) (nv vc : Nat) (ip : Option Addr) (ni ic : Nat), NV W l kp nk kc vp nv vc ip ni ic x → Calls Try.prog 9 #[.agg #[.bool l, .slice kp nk kc, .slice vp nv vc, .slice ip ni ic]] W fun e w' => e = .returned (.string (bs x.put)) ∧ Kept W w') := fun W kp nk kc vp nv vc ip ni ic h => put_walk h g
  have HG : Hid (∀ W, Calls Try.prog 10 #[.string (bs x.put), .bool l] W fun e w' => ∃ kp nk kc vp nv vc ip ni ic, e = .returned (.tuple #[.agg #[.bool l, .slice kp nk kc, .slice vp nv vc, .slice ip ni ic], .int .i64 0]) ∧ NV w' l kp nk kc vp nv vc ip ni ic x ∧ Kept W w') := fun W => get_walk g (by omega) hup l hlf
  have HREF : Hid (∀ (W : World) (kp : Option Addr) (nk kc : Nat) (vp : Option Addr) (nv vc : Nat) (ip : Option Addr) (ni ic : Nat), NV W l kp nk kc vp nv vc ip ni ic x → Calls Try.prog 13 #[.agg #[.bool l, .slice kp nk kc, .slice vp nv vc, .slice ip ni ic]] W fun e w' => ∃ vp' vc', e = .returned (.agg #[.bool l, .slice kp nk kc, .slice vp' nv vc', .slice ip ni ic]) ∧ NV w' l kp nk kc vp' nv vc' ip ni ic x ∧ Kept W w') := fun W kp nk kc vp nv vc ip ni ic h => ref_walk h (by
    have a := h.nv
    cases hx : x.leaf with
    | true => have := (g.lv hx).1; omega
    | false => rw [(g.li hx).2] at a; simp at a; omega)
  have HRP : Hid (∀ (W : World) (kp : Option Addr) (nk kc : Nat) (vp : Option Addr) (nv vc : Nat) (ip : Option Addr) (ni ic : Nat), NV W l kp nk kc vp nv vc ip ni ic x → Calls Try.prog 12 #[.agg #[.bool l, .slice kp nk kc, .slice vp nv vc, .slice ip ni ic]] W fun e w' => e = .returned (.string (bs x.put)) ∧ Kept W w') := fun W kp nk kc vp nv vc ip ni ic h => refput_walk h g
  have HSM : Hid (∀ (W : World) (kp : Option Addr) (nk kc : Nat) (vp : Option Addr) (nv vc : Nat) (ip : Option Addr) (ni ic : Nat) (kp2 : Option Addr) (nk2 kc2 : Nat) (vp2 : Option Addr) (nv2 vc2 : Nat) (ip2 : Option Addr) (ni2 ic2 : Nat), NV W l kp nk kc vp nv vc ip ni ic x → NV W l kp2 nk2 kc2 vp2 nv2 vc2 ip2 ni2 ic2 x → Calls Try.prog 14 #[.agg #[.bool l, .slice kp nk kc, .slice vp nv vc, .slice ip ni ic], .agg #[.bool l, .slice kp2 nk2 kc2, .slice vp2 nv2 vc2, .slice ip2 ni2 ic2]] W fun e w' => e = .returned (.bool true) ∧ Kept W w') := fun W kp nk kc vp nv vc ip ni ic kp2 nk2 kc2 vp2 nv2 vc2 ip2 ni2 ic2 h h2 => same_true h h2 (by have := h.nk; omega) (by
    have a := h.nv
    cases hx : x.leaf with
    | true => have := (g.lv hx).1; omega
    | false => rw [(g.li hx).2] at a; simp at a; omega) (by
    have a := h.ni
    cases hx : x.leaf with
    | true => rw [(g.lv hx).2] at a; simp at a; omega
    | false => have := (g.li hx).1; omega)
  have hse : ((bs x.put).toList == (bs x.put).toList) = true := by simp
  generalize bs x.put = s at *
  clear g hup hfew hlf h
  go_enter Try.func3, Try.ntmps3
  go_wp2_with (first
    | (go_at_call 8
       (with_reducible refine HE.mono ?_)
       rintro e v1 ⟨kp, nk, kc, vp, nv, vc, ip, ni, ic, rfl, N1, k1⟩
       have k1a := (Kept.refl v1).alloc (.cells #[.bool l, .slice kp nk kc, .slice vp nv vc, .slice ip ni ic] 27)
       have X1 := C4.alloc v1 27 (.bool l) (.slice kp nk kc) (.slice vp nv vc) (.slice ip ni ic)
       have N1 := N1.kept k1a
       have K1 := k1.trans k1a
       clear HE k1 k1a)
    | (go_at_call 9
       (with_reducible refine (HP.out _ _ _ _ _ _ _ _ _ _ N1).mono ?_)
       rintro e v2 ⟨rfl, k2⟩
       have X2 := X1.kept k2
       have N2 := N1.kept k2
       have K2 := K1.trans k2
       clear HP X1 N1 K1 k2)
    | (go_at_call 10
       (with_reducible refine (HG.out _).mono ?_)
       rintro e v3 ⟨kp3, nk3, kc3, vp3, nv3, vc3, ip3, ni3, ic3, rfl, M3, k3⟩
       have k3a := (Kept.refl v3).alloc (.cells #[.bool l, .slice kp3 nk3 kc3, .slice vp3 nv3 vc3, .slice ip3 ni3 ic3] 27)
       have Y3 := C4.alloc v3 27 (.bool l) (.slice kp3 nk3 kc3) (.slice vp3 nv3 vc3) (.slice ip3 ni3 ic3)
       have X3 := X2.kept (k3.trans k3a)
       have N3 := N2.kept (k3.trans k3a)
       have M3 := M3.kept k3a
       have K3 := K2.trans (k3.trans k3a)
       clear HG X2 N2 K2 k3 k3a))
  generalize v1.heap.size = b5 at *
  generalize hb7 : v3.heap.size = b7 at *
  generalize v3.alloc (.cells #[.bool l, .slice kp3 nk3 kc3, .slice vp3 nv3 vc3, .slice ip3 ni3 ic3] 27) = W3 at *
  clear hb7
  have KD : Kept W3 W3.drew := (Kept.refl W3).drew
  have HSA : Hid (∀ W, Kept W3 W → W.cell? ⟨b5, 0, none⟩ = some (.bool l) ∧ W.cell? ⟨b5, 1, none⟩ = some (.slice kp nk kc) ∧ W.cell? ⟨b5, 2, none⟩ = some (.slice vp nv vc) ∧ W.cell? ⟨b5, 3, none⟩ = some (.slice ip ni ic) ∧ W.cell? ⟨b7, 0, none⟩ = some (.bool l) ∧ W.cell? ⟨b7, 1, none⟩ = some (.slice kp3 nk3 kc3) ∧ W.cell? ⟨b7, 2, none⟩ = some (.slice vp3 nv3 vc3) ∧ W.cell? ⟨b7, 3, none⟩ = some (.slice ip3 ni3 ic3)) := by
    intro W hW
    obtain ⟨z0, z1, z2, z3⟩ := (X3.kept hW).cs
    obtain ⟨y0, y1, y2, y3⟩ := (Y3.kept hW).cs
    exact ⟨z0, z1, z2, z3, y0, y1, y2, y3⟩
  go_region_held3 (fun W => W.cell? ⟨b5, 0, none⟩ = some (.bool l) ∧ W.cell? ⟨b5, 1, none⟩ = some (.slice kp nk kc) ∧ W.cell? ⟨b5, 2, none⟩ = some (.slice vp nv vc) ∧ W.cell? ⟨b5, 3, none⟩ = some (.slice ip ni ic) ∧ W.cell? ⟨b7, 0, none⟩ = some (.bool l) ∧ W.cell? ⟨b7, 1, none⟩ = some (.slice kp3 nk3 kc3) ∧ W.cell? ⟨b7, 2, none⟩ = some (.slice vp3 nv3 vc3) ∧ W.cell? ⟨b7, 3, none⟩ = some (.slice ip3 ni3 ic3)) (exact HSA.out _ (by assumption)) (first
    | (go_at_call 11
       (with_reducible refine (awake_walk _).mono ?_)
       rintro e y1 ⟨rfl, j1⟩
       have J1 := KD.trans j1
       clear j1)
    | (go_at_call 13
       (with_reducible refine (HREF.out _ _ _ _ _ _ _ _ _ _ (N3.kept J1)).mono ?_)
       rintro e y2 ⟨vpa, vca, rfl, Da, j2⟩
       have J2 := J1.trans j2
       clear J1 j2)
    | (go_at_call 12
       (with_reducible refine (HRP.out _ _ _ _ _ _ _ _ _ _ Da).mono ?_)
       rintro e y3 ⟨rfl, j3⟩
       have J3 := J2.trans j3
       clear J2 j3 Da)
    | (go_at_call 13
       (with_reducible refine (HREF.out _ _ _ _ _ _ _ _ _ _ (M3.kept J3)).mono ?_)
       rintro e y4 ⟨vpb, vcb, rfl, Db, j4⟩
       have J4 := J3.trans j4
       clear J3 j4)
    | (go_at_call 13
       (with_reducible refine (HREF.out _ _ _ _ _ _ _ _ _ _ (N3.kept J4)).mono ?_)
       rintro e y5 ⟨vpc, vcc, rfl, Dc, j5⟩
       have J5 := J4.trans j5
       have Db5 := Db.kept j5
       clear J4 j5 Db)
    | (go_at_call 14
       (with_reducible refine (HSM.out _ _ _ _ _ _ _ _ _ _ _ _ _ _ _ _ _ _ _ Db5 Dc).mono ?_)
       rintro e y6 ⟨rfl, j6⟩
       have J6 := J5.trans j6
       clear J5 j6))
  go_wp2
  go_ret
  exact ⟨rfl, K3.trans J6⟩
end Go.Proofs.Ytgcfollelefmcaa
