/- Joined: XB XD. What is proved of the functions beneath StoreNone. Conditions: those that each row names. -/
import Derived.Test.YtifeihnhkbagpaaGreatDoorZbg
import Derived.Deep.RegionLaw
namespace Go.Proofs.YtifeihnhkbagpaaGreatDoor.T
open Go.ChangeShapes Go.WideShapes Go.ChangeAt Go.RowKit
open B (path_zero stpAt fm Pm Stp plc R con path path_length path_pf path_next got path_got Wf)
open N (Nd NV Rw Rx Own Kept C4 C3 Up fnd isk oldV)

structure Wh (B S : Nat) (I : World → Prop) (w W : World) (P : List Stp) (k : Nat) (v u : Value) : Prop where
  out : ∃ p c L n, v = .slice p k c ∧ u = .int .i64 n ∧ L.map Sm.stp = P.take k ∧ Own W w.heap.size 170 6 p k c (scl L) ∧ (∀ s ∈ L, s.ok W) ∧ Ct B S I w W ∧ (∀ s, P[k]? = some s → n = (s.page : Nat))
theorem way_hop {B S : Nat} {I : World → Prop} {w W w' : World} {q : Option Addr} {k c : Nat} {cs : List Value} (R : Stay S I) (hB : B ≤ w.heap.size) (o : Own W w.heap.size 170 6 q k c cs) (hg : W.grownBy w' (Value.slice q k c).ownBlock) (hK : Ct B S I w W) {l : Bool} {kp : Option Addr} {nk kc : Nat} {vp : Option Addr} {nv vc : Nat} {ip : Option Addr} {ni ic : Nat} {x : Nd} (hN : NV W l kp nk kc vp nv vc ip ni ic x) {L : List Sm} (hL : ∀ s ∈ L, s.ok W) :
    Ct B S I w w' ∧ (NV w' l kp nk kc vp nv vc ip ni ic x ∧ ∀ s ∈ L, s.ok w') ∧ ∀ b a0 a1 a2 a3, C4 W b 121 a0 a1 a2 a3 → C4 w' b 121 a0 a1 a2 a3 := by
  have ob := own_blk o
  have hr : ∀ b, (Value.slice q k c).ownBlock = some b → ∃ cs fr, W.heap[b]? = some (.cells cs 170 fr) := fun b e => (ob b e).2
  refine ⟨hK.grown R hB hg (fun b e => by obtain ⟨h1, cs, fr, h2⟩ := ob b e; exact ⟨h1, _, _, _, h2, by unfold Pgt; decide⟩), ⟨nv_grown hg hr hN, fun s hs => nv_grown hg hr (hL s hs)⟩, fun b a0 a1 a2 a3 h => ⟨(hg.block b h.lt (fun e => ?_)).trans h.out⟩⟩
  obtain ⟨cs', fr', hb'⟩ := hr b e.symm
  have := h.out
  rw [hb'] at this
  injection this with this
  injection this with _ e3 _
  exact absurd e3 (by decide)

set_option maxRecDepth 100000 in
set_option maxHeartbeats 2000000 in
theorem way_by {B S : Nat} {I : World → Prop} {w : World} {t p : Nat} {root : Nat} {M : Pm} {key : ByteArray} {P : List Stp} (Rd0 : Rdr B S p I M) (hT : TAt w t p (root : Nat)) (h : I w) (hB0 : B ≤ w.heap.size) (hP : Wy M key P) (hne : 0 < P.length) (h0 : ∀ s, P[0]? = some s → s.page = root) :
    Calls Tryz.prog 62 #[.pointer (some ⟨t, 0, none⟩), .string key] w fun e w' => ∃ q c L, e = .returned (.tuple #[.slice q P.length c, .int .i64 0]) ∧ L.map Sm.stp = P ∧ WAt w' q P.length c L ∧ Ct B S I w w' := by
  obtain ⟨i0, hi0, hz0, hz1, hz2⟩ := info_parts info170
  obtain ⟨c0, c1⟩ := hT.cs
  have HT : Hid (TAt w t p (root : Nat)) := hT
  have HB0 : Hid (B ≤ w.heap.size) := hB0
  have HRd : Hid (Rdr B S p I M) := Rd0
  have HP : Hid (Wy M key P) := hP
  have HF : Hid (P.length ≤ 1000) := hP.few
  have W0 : Hid (Wh B S I w w P 0 (.slice none 0 0) (.int .i64 (root : Nat))) := ⟨none, 0, [], _, rfl, rfl, rfl, own_nil _ _ _ _, (fun s hs => by cases hs), Ct.start h, fun s hs => by rw [h0 s hs]⟩
  clear hT h hP h0 hB0 Rd0
  obtain ⟨len, hlen⟩ : ∃ len, P.length = len := ⟨_, rfl⟩
  rw [hlen] at hne HF ⊢
  have HLn : Hid (P.length = len) := hlen
  clear hlen
  go_enter Tryz.func62, Tryz.ntmps62
  go_wp2
  go_loopg [6, 7] len (fun gg v u wx => ∃ k, Hid (gg = len - k) ∧ k < len ∧ Wh B S I w wx P k v u)
  case atStart => exact ⟨0, rfl, hne, W0.out⟩
  case round =>
    obtain ⟨k, hgk, hk, hw⟩ := hrel
    obtain ⟨q, c, L, n, rfl, rfl, hL, hO, hok, hK, hn⟩ := hw.out
    obtain ⟨s, hs⟩ : ∃ s, P[k]? = some s := ⟨_, List.getElem?_eq_getElem (by rw [HLn.out]; exact hk)⟩
    obtain rfl := hn s hs
    obtain ⟨sM, sG, sU, sk, sl⟩ := HP.out.nod k s hs
    have HN := node_by HRd.out (HT.out.on hK.f.on) hK.i (Nat.le_trans HB0.out hK.size) sM sG sU s.x.leaf rfl
    have HGd : Hid (N.Good s.x) := sG
    have HS : Hid (P[k]? = some s) := hs
    have HSk : Hid (s.kid = plc s.x key) := sk
    have HSl : Hid (s.x.leaf = decide (k + 1 = P.length)) := sl
    have HL' : Hid (L.map Sm.stp = P.take k) := hL
    have HO : Hid (Own wr w.heap.size 170 6 q k c (scl L)) := hO
    have HOk : Hid (∀ s ∈ L, s.ok wr) := hok
    have hneg : ¬ (s.page : Int) = -1 := by omega
    have hk16 : ¬ (k : Int) = 16384 := by have := HF.out; omega
    clear hw hn hL hO hok hs sM sG sU sk sl W0
    generalize s.x.leaf = l at *
    go_upto_region 9 with (go_at_call 94; (with_reducible refine HN.mono ?_); rintro e w1 ⟨kp, nk, kc, vp, nv, vc, ip, ni, ic, rfl, N1, k1, _⟩; have k2 : Kept w1 (w1.alloc (.cells #[.bool l, .slice kp nk kc, .slice vp nv vc, .slice ip ni ic] 121)) := (Kept.refl w1).alloc _; have N2 := N1.kept k2; have X2 := C4.alloc w1 121 (.bool l) (.slice kp nk kc) (.slice vp nv vc) (.slice ip ni ic); obtain ⟨y0, y1, y2, y3⟩ := X2.cs; have K2 := (hK.trans k1).kept HRd.out.stay HB0.out k2)
    have HPl : Hid (∀ W, Kept (w1.alloc (.cells #[.bool l, .slice kp nk kc, .slice vp nv vc, .slice ip ni ic] 121)) W → Calls Tryz.prog 95 #[.agg #[.bool l, .slice kp nk kc, .slice vp nv vc, .slice ip ni ic], .string key] W fun e w' => e = .returned (.int .i64 (s.kid : Nat)) ∧ Kept W w' ∧ Kept (w1.alloc (.cells #[.bool l, .slice kp nk kc, .slice vp nv vc, .slice ip ni ic] 121)) w') := fun W kW => by rw [HSk.out]; exact (place_walk (N2.kept kW) HGd.out key).mono (fun e w' hh => ⟨hh.1, hh.2, kW.trans hh.2⟩)
    go_cut [10] (fun tv wx => ∃ bs, tv = .pointer (some ⟨bs, 0, none⟩) ∧ wx.heap[bs]? = some (.cells #[.int .i64 (s.page : Nat), .bool l, .slice kp nk kc, .slice vp nv vc, .slice ip ni ic, .int .i64 (s.kid : Nat)] 170) ∧ w1.heap.size < bs ∧ Kept (w1.alloc (.cells #[.bool l, .slice kp nk kc, .slice vp nv vc, .slice ip ni ic] 121)) wx)
    case first =>
      have kA : Kept (w1.alloc (.cells #[.bool l, .slice kp nk kc, .slice vp nv vc, .slice ip ni ic] 121)) (w1.alloc (.cells #[.bool l, .slice kp nk kc, .slice vp nv vc, .slice ip ni ic] 121)).drew := (Kept.refl _).drew
      have kB : Kept (w1.alloc (.cells #[.bool l, .slice kp nk kc, .slice vp nv vc, .slice ip ni ic] 121)) ((w1.alloc (.cells #[.bool l, .slice kp nk kc, .slice vp nv vc, .slice ip ni ic] 121)).alloc (.cells #[.int .i64 0, .bool false, .slice none 0 0, .slice none 0 0, .slice none 0 0, .int .i64 0] 170)).drew := ((Kept.refl _).alloc _).drew
      have HPA := HPl.out _ kA
      have HPB := HPl.out _ kB
      have zB : ((w1.alloc (.cells #[.bool l, .slice kp nk kc, .slice vp nv vc, .slice ip ni ic] 121)).alloc (.cells #[.int .i64 0, .bool false, .slice none 0 0, .slice none 0 0, .slice none 0 0, .int .i64 0] 170)).drew.heap[w1.heap.size + 1]? = some (.cells #[.int .i64 0, .bool false, .slice none 0 0, .slice none 0 0, .slice none 0 0, .int .i64 0] 170) := D.two_new w1 _ _
      have HZB : Hid (((w1.alloc (.cells #[.bool l, .slice kp nk kc, .slice vp nv vc, .slice ip ni ic] 121)).alloc (.cells #[.int .i64 0, .bool false, .slice none 0 0, .slice none 0 0, .slice none 0 0, .int .i64 0] 170)).drew.heap[w1.heap.size + 1]? = some (.cells #[.int .i64 0, .bool false, .slice none 0 0, .slice none 0 0, .slice none 0 0, .int .i64 0] 170)) := zB
      have hsz : (w1.alloc (.cells #[.bool l, .slice kp nk kc, .slice vp nv vc, .slice ip ni ic] 121)).heap.size ≤ w1.heap.size + 1 := by rw [N.size_alloc]; exact Nat.le_refl _
      clear HPl kA kB zB HN
      have hy0 := fun o => (X2.kept ((Kept.refl _).alloc o)).cs.1
      have hy1 := fun o => (X2.kept ((Kept.refl _).alloc o)).cs.2.1
      have hy2 := fun o => (X2.kept ((Kept.refl _).alloc o)).cs.2.2.1
      have hy3 := fun o => (X2.kept ((Kept.refl _).alloc o)).cs.2.2.2
      go_region_with (first
        | (go_at_call 95; (with_reducible refine HPA.mono ?_); rintro e w3 ⟨rfl, k3, kk⟩; obtain ⟨r0, r1, r2, r3⟩ := (X2.kept kk).cs; have hz0 := fun o => ((X2.kept kk).kept ((Kept.refl _).alloc o)).cs.1; have hz1 := fun o => ((X2.kept kk).kept ((Kept.refl _).alloc o)).cs.2.1; have hz2 := fun o => ((X2.kept kk).kept ((Kept.refl _).alloc o)).cs.2.2.1; have hz3 := fun o => ((X2.kept kk).kept ((Kept.refl _).alloc o)).cs.2.2.2; clear HPA HPB)
        | (go_at_call 95; (with_reducible refine HPB.mono ?_); rintro e w3 ⟨rfl, k3, kk⟩; obtain ⟨r0, r1, r2, r3⟩ := (X2.kept kk).cs; have Z0 := k3.block HZB.out; obtain ⟨⟨a0, f0⟩, ⟨a1, f1⟩, ⟨a2, f2⟩, ⟨a3, f3⟩, ⟨a4, f4⟩, ⟨a5, f5⟩, hfin⟩ := ready6 Z0 (.int .i64 (s.page : Nat)) (.bool l) (.slice kp nk kc) (.slice vp nv vc) (.slice ip ni ic) (.int .i64 (s.kid : Nat)); clear HPA HPB))
      all_goals go_wp2_with fail
      all_goals go_meet
      all_goals
        first
          | exact ⟨_, rfl, hfin, Nat.lt_succ_self _, ((kk.st4 (b := w1.heap.size + 1) hsz _ _ _ _).set (a := ⟨w1.heap.size + 1, 4, none⟩) hsz _).set (a := ⟨w1.heap.size + 1, 5, none⟩) hsz _⟩
          | exact ⟨_, rfl, heap_alloc_new w3 _, (by have := kk.size; rw [N.size_alloc] at this; omega), kk.alloc _⟩
    case rest =>
      obtain ⟨bs, rfl, hbs, hlt, kc3⟩ := hcut
      have HNe : Hid (∀ b, (Value.slice q k c).ownBlock = some b → b ≠ bs) := fun b e => by
        obtain ⟨_, cs', fr', hb'⟩ := own_blk HO.out b e
        have h1 := (Array.getElem?_eq_some_iff.1 hb').1
        have h2 := k1.size
        omega
      clear HPl
      have kw : Ct B S I wr wc := (k1.kept HRd.out.stay (Nat.le_trans HB0.out hK.size) k2).kept HRd.out.stay (Nat.le_trans HB0.out hK.size) kc3
      obtain ⟨b0, b1, b2, b3, b4, b5⟩ := cells6 hbs
      obtain ⟨z0, z1, z2, z3⟩ := (X2.kept kc3).cs
      have N3 := N2.kept kc3
      have K3 := K2.kept HRd.out.stay HB0.out kc3
      have ka : Kept wc (wc.alloc (.cells #[.int .i64 (s.page : Nat), .bool l, .slice kp nk kc, .slice vp nv vc, .slice ip ni ic, .int .i64 (s.kid : Nat)] 170)) := (Kept.refl wc).alloc _
      have OA := (own_on kw.f.on calm170 HO.out).kept ka
      have HOk3 : Hid (∀ z ∈ L, z.ok (wc.alloc (.cells #[.int .i64 (s.page : Nat), .bool l, .slice kp nk kc, .slice vp nv vc, .slice ip ni ic, .int .i64 (s.kid : Nat)] 170))) := fun z hz => NV.kept (nv_on kw.f.on (HOk.out z hz)) ka
      have hz6 := six_cell wc (.int .i64 (s.page : Nat)) (.bool l) (.slice kp nk kc) (.slice vp nv vc) (.slice ip ni ic) (.int .i64 (s.kid : Nat)) 170
      have h1one : ∀ u ∈ [Value.int .i64 (s.page : Nat), .bool l, .slice kp nk kc, .slice vp nv vc, .slice ip ni ic, .int .i64 (s.kid : Nat)], u.oneCell' = true := by intro u hu; simp at hu; rcases hu with rfl | rfl | rfl | rfl | rfl | rfl <;> rfl
      have hkb : k + 1 ≤ 1000 := by have := HF.out; omega
      have hBE : w.heap.size ≤ (wc.alloc (.cells #[.int .i64 (s.page : Nat), .bool l, .slice kp nk kc, .slice vp nv vc, .slice ip ni ic, .int .i64 (s.kid : Nat)] 170)).heap.size := (K3.kept HRd.out.stay HB0.out ka).size
      have hsn : Hid ((L ++ [(⟨s.page, s.kid, l, kp, nk, kc, vp, nv, vc, ip, ni, ic, s.x⟩ : Sm)]).map Sm.stp = P.take (k + 1)) := by
        show _ = _
        rw [List.map_append, HL'.out, List.take_add_one, HS.out]; rfl
      have hcl : Hid (scl (L ++ [(⟨s.page, s.kid, l, kp, nk, kc, vp, nv, vc, ip, ni, ic, s.x⟩ : Sm)]) = scl L ++ [.int .i64 (s.page : Nat), .bool l, .slice kp nk kc, .slice vp nv vc, .slice ip ni ic, .int .i64 (s.kid : Nat)]) := scl_snoc _ _
      by_cases hlast : k + 1 = len
      · obtain rfl : l = true := by rw [HSl.out, HLn.out]; simpa using hlast
        go_wp2_with (at_builtin; refine wpList_append_own _ rfl _ _ 116 rfl w.heap.size 170 i0 _ 6 96 Tryz.underlying116 hi0 hz0 hz1 hz2 rfl (by decide) (.slice q k c) k (scl L) rfl OA.out ⟨wc.heap.size, 0, none⟩ 1 1 [.int .i64 (s.page : Nat), .bool true, .slice kp nk kc, .slice vp nv vc, .slice ip ni ic, .int .i64 (s.kid : Nat)] rfl rfl hz6 h1one (by unfold maxLen; omega) (by omega) hBE ?_; intro v' w5 o5 g5 _; obtain ⟨q5, c5, rfl⟩ := owns_shape o5; obtain ⟨hK5, hN5, hX5⟩ := way_hop HRd.out.stay HB0.out OA g5 (K3.kept HRd.out.stay HB0.out ka) (N3.kept ka) HOk3.out; obtain ⟨zz0, zz1, zz2, zz3⟩ := (hX5 _ _ _ _ _ ((X2.kept kc3).kept ka)).cs; have O5 : Hid (Own w5 w.heap.size 170 6 q5 (k + 1) c5 (scl (L ++ [(⟨s.page, s.kid, true, kp, nk, kc, vp, nv, vc, ip, ni, ic, s.x⟩ : Sm)]))) := ⟨by rw [hcl.out]; exact o5⟩; clear o5 g5)
        go_ret2
        subst hlast
        refine ⟨_, _, _, rfl, ?_, ⟨O5.out.rw, O5.out.rx, fun z hz => ?_⟩, hK5⟩
        · rw [hsn.out, ← HLn.out, List.take_length]
        · rcases List.mem_append.1 hz with hz | hz
          · exact hN5.2 z hz
          · simp at hz; subst hz; exact hN5.1
      · obtain rfl : l = false := by rw [HSl.out, HLn.out]; simpa using hlast
        obtain ⟨s', hs'⟩ : ∃ s', P[k + 1]? = some s' := ⟨_, List.getElem?_eq_getElem (by rw [HLn.out]; omega)⟩
        have hnx := HP.out.nxt k s s' HS.out hs'
        have HNx : Hid (s.x.is[s.kid]? = some (s'.page : Int)) := hnx
        have HS' : Hid (P[k + 1]? = some s') := hs'
        have hkl : s.kid < ni := by have a := (List.getElem?_eq_some_iff.1 hnx).1; have b := N3.ni; omega
        have hkl2 : (s.kid : Int) < (ni : Int) := by omega
        obtain ⟨ib, io, rfl, _⟩ := N3.i.some (by omega)
        clear hnx hs'
        go_wp2_with (at_builtin; refine wpList_append_own _ rfl _ _ 116 rfl w.heap.size 170 i0 _ 6 96 Tryz.underlying116 hi0 hz0 hz1 hz2 rfl (by decide) (.slice q k c) k (scl L) rfl OA.out ⟨wc.heap.size, 0, none⟩ 1 1 [.int .i64 (s.page : Nat), .bool false, .slice kp nk kc, .slice vp nv vc, .slice (some ⟨ib, io, none⟩) ni ic, .int .i64 (s.kid : Nat)] rfl rfl hz6 h1one (by unfold maxLen; omega) (by omega) hBE ?_; intro v' w5 o5 g5 _; obtain ⟨q5, c5, rfl⟩ := owns_shape o5; obtain ⟨hK5, hN5, hX5⟩ := way_hop HRd.out.stay HB0.out OA g5 (K3.kept HRd.out.stay HB0.out ka) (N3.kept ka) HOk3.out; obtain ⟨zz0, zz1, zz2, zz3⟩ := (hX5 _ _ _ _ _ ((X2.kept kc3).kept ka)).cs; have ci := nv_kid hN5.1 HNx.out; have hb5 := blk_stays g5 (ka.block hbs) HNe.out; obtain ⟨e0, e1, e2, e3, e4, e5⟩ := cells6 hb5; have O5 : Hid (Own w5 w.heap.size 170 6 q5 (k + 1) c5 (scl (L ++ [(⟨s.page, s.kid, false, kp, nk, kc, vp, nv, vc, some ⟨ib, io, none⟩, ni, ic, s.x⟩ : Sm)]))) := ⟨by rw [hcl.out]; exact o5⟩; clear o5 g5)
        go_roundg (len - (k + 1))
        case measure => rw [hgk.out]; omega
        case rel =>
          refine ⟨k + 1, rfl, by omega, ⟨q5, c5, _, _, rfl, rfl, hsn.out, O5.out, fun z hz => ?_, hK5, fun s2 hs2 => ?_⟩⟩
          · rcases List.mem_append.1 hz with hz | hz
            · exact hN5.2 z hz
            · simp at hz; subst hz; exact hN5.1
          · rw [HS'.out] at hs2; obtain rfl := Option.some.inj hs2; rfl
set_option maxRecDepth 100000 in
set_option maxHeartbeats 1000000 in
theorem get_by {B S : Nat} {I : World → Prop} {w : World} {t p d n : Nat} {root : Int} {M : Pm} {key : ByteArray} (Rd0 : Rdr B S p I M) (hT : TAt w t p root) (hr : root = (n : Int)) (hV : I w) (hB0 : B ≤ w.heap.size) (hw : Wf M d n) (ho : (fm M d n).Pairwise R) (hd : d ≤ 10) :
    Calls Tryz.prog 40 #[.pointer (some ⟨t, 0, none⟩), .string key] w fun e w' => e = .returned (.tuple #[.agg #[.string (had key (con (fm M d n))).d, .int .i64 (had key (con (fm M d n))).p, .int .i64 (had key (con (fm M d n))).l], .bool (got key (con (fm M d n))).isSome, .int .i64 0]) ∧ Ct B S I w w' := by
  subst hr
  have hpf := pf_of hw ho key
  have hwy := wy_of hpf (by omega)
  have hpl := path_length M key d n
  have K0 : Kept w (w.alloc (.cells #[.string ⟨#[]⟩, .int .i64 0, .int .i64 0] 77)) := (Kept.refl w).alloc _
  have R0 := C3.alloc w 77 (.string ⟨#[]⟩) (.int .i64 0) (.int .i64 0)
  have f1 := none_walk (hT.kept K0)
  have f2 := way_by Rd0 (hT.kept K0) (Rd0.stay.out _ _ hV (Aq.ofKept K0)) (Nat.le_trans hB0 K0.size) hwy (by omega) (fun s hs => by rw [path_zero] at hs; rw [← Option.some.inj hs]; rfl)
  obtain ⟨s, hs⟩ : ∃ s, (path M key d n)[d]? = some s := ⟨_, List.getElem?_eq_getElem (by omega)⟩
  obtain ⟨_, hps⟩ := path_pf d n [] [] hpf d s hs
  rw [Nat.sub_self] at hps
  have hg := path_got d n [] [] hpf s hs
  have hgood := hps.wf.good
  have hlv := (hgood.lv hps.wf.1).1
  have HS : Hid ((path M key d n)[d]? = some s) := hs
  have HG : Hid (N.Good s.x) := hgood
  have HLv : Hid (s.x.vs.length = s.x.ks.length) := hlv
  have HPl : Hid ((path M key d n).length = d + 1) := hpl
  have HD : Hid (d ≤ 10) := hd
  have HGt : Hid (got key (con (fm M d n)) = if isk key s.x.ks = true then some (oldV s.x.ks s.x.vs key) else none) := hg
  have HOl : Hid (isk key s.x.ks = true → s.x.vs[fnd key s.x.ks]? = some (had key (con (fm M d n))) ∧ (got key (con (fm M d n))).isSome = true) := fun h => by
    have hk := N.isk_lt h
    have e := HGt.out
    rw [if_pos h] at e
    have e2 : s.x.vs[fnd key s.x.ks]? = some (s.x.vs[fnd key s.x.ks]'(by have := HLv.out; omega)) := List.getElem?_eq_getElem (by have := HLv.out; omega)
    refine ⟨?_, by rw [e]; rfl⟩
    unfold had
    rw [e]
    show _ = some (oldV s.x.ks s.x.vs key)
    unfold oldV
    rw [if_pos h, e2]; rfl
  have HNo : Hid (isk key s.x.ks = false → had key (con (fm M d n)) = ⟨⟨#[]⟩, -1, 0⟩ ∧ (got key (con (fm M d n))).isSome = false) := fun h => by
    have e := HGt.out
    rw [if_neg (by rw [h]; decide)] at e
    unfold had
    rw [e]
    exact ⟨rfl, rfl⟩
  generalize had key (con (fm M d n)) = hv at HOl HNo ⊢
  generalize (got key (con (fm M d n))).isSome = hb at HOl HNo ⊢
  have HB0 : Hid (B ≤ w.heap.size) := hB0
  have HRd : Hid (Stay S I) := Rd0.stay
  have HC0 : Hid (Ct B S I w (w.alloc (.cells #[.string ⟨#[]⟩, .int .i64 0, .int .i64 0] 77))) := (Ct.start hV).kept Rd0.stay hB0 K0
  clear hpf hwy hs hps hg hgood hlv hw ho hV hT hd hpl hB0 Rd0
  generalize hlen : (path M key d n).length = len at f2 HPl
  have HLen : Hid ((path M key d n).length = len) := hlen
  clear hlen
  go_enter Tryz.func40, Tryz.ntmps40
  go_wp2_with (first
    | (go_at_call 57; (with_reducible refine f1.mono ?_); rintro e w1 ⟨rfl, hw1⟩; rw [hw1]; clear hw1 f1)
    | (go_at_call 62; (with_reducible refine f2.mono ?_); rintro e w1 ⟨q, c, L, rfl, hLP, hW, k1⟩; clear f2))
  obtain ⟨z, hz, hzs⟩ : ∃ z, L[d]? = some z ∧ z.stp = s := by
    have := HS.out
    rw [← hLP, List.getElem?_map] at this
    cases hz : L[d]? with
    | none => rw [hz] at this; cases this
    | some z => rw [hz] at this; exact ⟨z, rfl, Option.some.inj this⟩
  have f3 := end_walk (k := d) hW (by have := HD.out; omega) HPl.out hz
  have NZ1 := hW.ok z (List.mem_of_getElem? hz)
  obtain ⟨zp, zk, zl, zkp, znk, zkc, zvp, znv, zvc, zip, zni, zic, zx⟩ := z
  dsimp only [Sm.ok] at NZ1 f3
  have ezx : zx = s.x := by rw [← hzs]; rfl
  subst ezx
  have K1 := HC0.out.trans k1
  have R1 := c3_cal R0 k1.f.on calm77
  have hfw := HG.out.few
  have enk := NZ1.nk
  have env := NZ1.nv
  have hfl := N.fnd_le key s.x.ks
  have HN1 : Hid (NV w1 zl zkp znk zkc zvp znv zvc zip zni zic s.x) := NZ1
  have HNk : Hid (s.x.ks.length = znk ∧ s.x.vs.length = znv) := ⟨enk, env⟩
  have f4 : Hid (∀ W, Kept w1 W → Calls Tryz.prog 64 #[.slice zkp znk zkc, .string key] W fun e w' => e = .returned (.tuple #[.int .i64 (fnd key s.x.ks : Nat), .bool (isk key s.x.ks)]) ∧ w' = W) := fun W k => N.find_walk ((HN1.out.kept k).k) (by omega) key
  have HF : Hid (fnd key s.x.ks ≤ s.x.ks.length ∧ s.x.ks.length ≤ 120) := ⟨hfl, hfw⟩
  generalize fnd key s.x.ks = i at f4 HF HOl
  clear NZ1 enk env hfl hfw hW hLP hz hzs k1
  cases hik : isk key s.x.ks with
  | false =>
    obtain ⟨rfl, rfl⟩ := HNo.out hik
    rw [hik] at f4
    clear HNo HOl
    go_wp2_with (first
      | (go_at_call 63; (with_reducible refine f3.mono ?_); rintro e w2 ⟨rfl, k2⟩; have ka : Kept w2 (w2.alloc (.cells #[.bool zl, .slice zkp znk zkc, .slice zvp znv zvc, .slice zip zni zic] 121)) := (Kept.refl _).alloc _; have K2 := (K1.kept HRd.out HB0.out k2).kept HRd.out HB0.out ka; have k12 := k2.trans ka; have R2 := R1.kept k12; obtain ⟨x0, x1, x2, x3⟩ := (C4.alloc w2 121 (.bool zl) (.slice zkp znk zkc) (.slice zvp znv zvc) (.slice zip zni zic)).cs; obtain ⟨⟨g0, i0⟩, ⟨g1, i1⟩, ⟨g2, i2⟩, hfin⟩ := N.ready3 R2.out (.string ⟨#[]⟩) (.int .i64 (-1)) (.int .i64 0); clear f3)
      | (go_at_call 64; (with_reducible refine (f4.out _ k12).mono ?_); rintro e w3 ⟨rfl, hw3⟩; rw [hw3]; clear hw3 f4))
    have q2 := K2.grown HRd.out HB0.out (g3_grown _ w.heap.size (.string ⟨#[]⟩) (.int .i64 (-1)) (.int .i64 0)) (fun b e => by injection e with e; subst e; exact ⟨Nat.le_refl _, _, _, _, R2.out, by unfold Pgt; decide⟩)
    generalize (((World.setCell _ ⟨w.heap.size, 0, none⟩ (.string ⟨#[]⟩)).setCell ⟨w.heap.size, 1, none⟩ (.int .i64 (-1))).setCell ⟨w.heap.size, 2, none⟩ (.int .i64 0)) = WF at hfin q2 ⊢
    refine bodyPost_ret (v := .tuple #[.agg #[.string ⟨#[]⟩, .int .i64 (-1), .int .i64 0], .bool false, .int .i64 0]) ?_ rfl ⟨rfl, q2⟩
    exact results_ctt (p := 4) (u := 5) (v := 6) (ty := 77) rfl _ _ w.heap.size 77 #[.string ⟨#[]⟩, .int .i64 (-1), .int .i64 0] (0, 0) _ rfl hfin Tryz.underlying77 rfl size77
  | true =>
    obtain ⟨hvs, rfl⟩ := HOl.out hik
    rw [hik] at f4
    clear HNo HOl
    have hilt := (List.getElem?_eq_some_iff.1 hvs).1
    obtain ⟨vb, vo, rfl, _⟩ := HN1.out.v.some (by have := HNk.out; omega)
    have HVs : Hid (s.x.vs[i]? = some hv) := hvs
    have i3 : (i : Int) < (znv : Int) := by have := HNk.out; omega
    obtain ⟨hvd, hvp, hvl⟩ := hv
    have cells : Hid (∀ W, Kept w1 W → W.cell? ⟨vb, vo + i * 3, none⟩ = some (.string hvd) ∧ W.cell? ⟨vb, vo + i * 3 + 1, none⟩ = some (.int .i64 hvp) ∧ W.cell? ⟨vb, vo + i * 3 + 2, none⟩ = some (.int .i64 hvl)) := fun W k => by
      have rr := (HN1.out.kept k).v
      obtain ⟨c1, c2, c3⟩ := N.vcl_at HVs.out
      rcases rr.out with ⟨h0, _⟩ | ⟨b, off, e, f⟩
      · cases h0
      injection e with e
      injection e with e1 e2
      subst e1; subst e2
      exact ⟨f _ _ c1, f _ _ c2, f _ _ c3⟩
    clear hvs hilt
    go_wp2_with (first
      | (go_at_call 63; (with_reducible refine f3.mono ?_); rintro e w2 ⟨rfl, k2⟩; have ka : Kept w2 (w2.alloc (.cells #[.bool zl, .slice zkp znk zkc, .slice (some ⟨vb, vo, none⟩) znv zvc, .slice zip zni zic] 121)) := (Kept.refl _).alloc _; have K2 := (K1.kept HRd.out HB0.out k2).kept HRd.out HB0.out ka; have k12 := k2.trans ka; have R2 := R1.kept k12; obtain ⟨x0, x1, x2, x3⟩ := (C4.alloc w2 121 (.bool zl) (.slice zkp znk zkc) (.slice (some ⟨vb, vo, none⟩) znv zvc) (.slice zip zni zic)).cs; obtain ⟨u0, u1, u2⟩ := cells.out _ k12; obtain ⟨⟨g0, i0⟩, ⟨g1, i1⟩, ⟨g2, i2⟩, hfin⟩ := N.ready3 R2.out (.string hvd) (.int .i64 hvp) (.int .i64 hvl); clear f3)
      | (go_at_call 64; (with_reducible refine (f4.out _ k12).mono ?_); rintro e w3 ⟨rfl, hw3⟩; rw [hw3]; clear hw3 f4))
    have q2 := K2.grown HRd.out HB0.out (g3_grown _ w.heap.size (.string hvd) (.int .i64 hvp) (.int .i64 hvl)) (fun b e => by injection e with e; subst e; exact ⟨Nat.le_refl _, _, _, _, R2.out, by unfold Pgt; decide⟩)
    generalize (((World.setCell _ ⟨w.heap.size, 0, none⟩ (.string hvd)).setCell ⟨w.heap.size, 1, none⟩ (.int .i64 hvp)).setCell ⟨w.heap.size, 2, none⟩ (.int .i64 hvl)) = WF at hfin q2 ⊢
    refine bodyPost_ret (v := .tuple #[.agg #[.string hvd, .int .i64 hvp, .int .i64 hvl], .bool true, .int .i64 0]) ?_ rfl ⟨rfl, q2⟩
    exact results_ctt (p := 4) (u := 5) (v := 6) (ty := 77) rfl _ _ w.heap.size 77 #[.string hvd, .int .i64 hvp, .int .i64 hvl] (0, 0) _ rfl hfin Tryz.underlying77 rfl size77

open Go.Proofs.YtifeihnhkbagpaaGreatDoor.D (Ok whole)
open G (Flu Liv secOf)

def hl (H : Nat → Option G.Pag) : Nat → Nat
  | 0 => 0
  | m + 1 => hl H m + (if (H m).isSome = true then 1 else 0)
theorem hl_le (H : Nat → Option G.Pag) : ∀ m, hl H m ≤ m
  | 0 => Nat.le_refl _
  | m + 1 => by
    have := hl_le H m
    simp only [hl]
    split <;> omega
theorem hl_put {H : Nat → Option G.Pag} {n : Nat} {x : G.Pag} (h : H n = none) : ∀ m, hl (G.putM H n x) m = hl H m + (if n < m then 1 else 0)
  | 0 => rfl
  | m + 1 => by
    simp only [hl, hl_put h m]
    by_cases e : m = n
    · subst e
      rw [show G.putM H m x m = some x by simp [G.putM], h, if_neg (Nat.lt_irrefl _)]
      simp
    · rw [show G.putM H n x m = H m by simp [G.putM, e]]
      by_cases e2 : n < m
      · rw [if_pos e2, if_pos (show n < m + 1 by omega)]; omega
      · rw [if_neg e2, if_neg (show ¬ n < m + 1 by omega)]; omega
def ndp (k xg : Nat) (y : Nd) : G.Pag := ⟨kindOf y, (k : Nat), xg, N.bs y.put⟩

structure Cg (B L : Nat) (W : World) (p d g m gen c : Nat) (root : Int) (M : Pm) (u : Nat → Bool) : Prop where
  out : ∃ (a : G.Ad) (q : G.Pq), (a.d = d ∧ a.g = g) ∧ (a.mf < L ∧ a.mh < L) ∧ G.GA B W p a q ∧ (q.gen = gen ∧ q.root = root ∧ q.m = m ∧ q.doubt = false) ∧ (∀ k, q.fresh k = none) ∧ (q.fails = q.disk.fails ∧ q.disk.cuts = [] ∧ Flu q.disk ∧ q.disk.secs.length = m ∧ Ok (c + hl q.held m) q.disk) ∧
    (∀ k y, M k = some y → ∃ xg : Nat, xg < 18446744073709551616 ∧ q.disk.secs[k]? = some ⟨whole (secOf (G.putM (fun _ => none) k (ndp k xg y)) k), false, 0⟩ ∧ (q.held k = none ∨ q.held k = some (ndp k xg y))) ∧ (∀ k, k < m → q.ut k = u k ∧ q.un k = u k ∧ q.uk k = u k)
  rng : ∀ k x, M k = some x → 2 ≤ k ∧ k < m ∧ x.put.length ≤ 237
  few : m ≤ 1024 ∧ c ≤ 40000

theorem GA_aq {B L : Nat} {W W' : World} {p : Nat} {a : G.Ad} {q : G.Pq} (h : G.GA B W p a q) (hc : q.disk.cuts = []) (hm : a.mf < L ∧ a.mh < L) (k : Aq L W W') : G.GA B W' p a q := by
  obtain ⟨_, _, f1⟩ := h.fm.block
  obtain ⟨_, _, h1⟩ := h.hm.block
  have ac : Ac W W' := ⟨k.cells⟩
  exact ⟨ac.cells _ _ _ _ h.blk (by decide), disk_ap h.disk hc ac, sa_ap h.sk ac, sa_ap h.st ac, sa_ap h.sn ac, h.fm.same ((k.maps _ _ _ hm.1 f1).trans f1.symm), h.hm.same ((k.maps _ _ _ hm.2 h1).trans h1.symm), h.ne, h.le⟩
theorem Cg.stay (B L p d g m gen c : Nat) (root : Int) (M : Pm) (u : Nat → Bool) : Stay L (fun W => Cg B L W p d g m gen c root M u) := ⟨fun W W' h k => by
  obtain ⟨a, q, e, hm, hG, h1, h2, h3, r⟩ := h.out
  exact ⟨⟨a, q, e, hm, GA_aq hG h3.2.1 hm k, h1, h2, h3, r⟩, h.rng, h.few⟩⟩

theorem look_held2 {B : Nat} {w : World} {p : Nat} {a : G.Ad} {q : G.Pq} (h : G.GA B w p a q) (hf : q.fails = q.disk.fails) (n : Nat) (hn : n < 1024) (hx0 : q.fresh n = none) (x : G.Pag) (hx : q.held n = some x) :
    Calls Tryz.prog 165 #[.pointer (some ⟨p, 0, none⟩), .int .i64 (n : Nat)] w fun e w' => e = .returned (.tuple #[x.val, .int .i64 0]) ∧ Kept w w' := by
  have K1 : D.Kept w (w.alloc (.cells #[.int .i64 0, .int .i64 0, .int .u64 0, .string ⟨#[]⟩] 157)) := (D.Kept.refl w).alloc _
  have k1 := h.kept K1
  obtain ⟨c0, c1, c2, c3, c4, c5, c6, c7, c8, c9⟩ := k1.cs
  have lk := k1.fm.look n (by omega)
  rw [show G.atK q.fresh n = G.Pag.zero by simp [G.atK, hx0], hx0] at lk
  have lk1 : (Instr.lookup 104 (.map (some a.mf)) (.int .i64 (n : Nat)) true).run Tryz.prog (w.alloc (.cells #[.int .i64 0, .int .i64 0, .int .u64 0, .string ⟨#[]⟩] 157)) = .ok (.tuple #[.agg #[.int .i64 0, .int .i64 0, .int .u64 0, .string ⟨#[]⟩], .bool false]) (w.alloc (.cells #[.int .i64 0, .int .i64 0, .int .u64 0, .string ⟨#[]⟩] 157)) := lk
  have K2 : D.Kept w ((w.alloc (.cells #[.int .i64 0, .int .i64 0, .int .u64 0, .string ⟨#[]⟩] 157)).alloc (.cells #[.int .i64 0, .int .i64 0, .int .u64 0, .string ⟨#[]⟩] 157)) := K1.alloc _
  have k2 := h.kept K2
  have f1 := D.fails_walk k2.disk
  rw [← hf] at f1
  obtain ⟨d0, d1, d2, d3, d4, d5, d6, d7, d8, d9⟩ := k2.cs
  have lh := k2.hm.look n (by omega)
  rw [show G.atK q.held n = x by simp [G.atK, hx], hx] at lh
  obtain ⟨xk, xn, xg, xs⟩ := x
  dsimp only [G.Pag.val, Option.isSome_some] at lh
  clear hx hx0 lk hf
  generalize q.fails = qf at *
  go_enter Tryz.func165, Tryz.ntmps165
  go_wp2_with (go_at_call 206; (with_reducible refine f1.mono ?_); rintro e w1 ⟨rfl, hw1⟩; rw [hw1]; clear hw1)
  refine bodyPost_ret (v := .tuple #[.agg #[.int .i64 xk, .int .i64 xn, .int .u64 (xg : Nat), .string xs], .int .i64 0]) ?_ rfl ⟨rfl, ((Kept.refl w).alloc _).alloc _ |>.alloc _⟩
  exact P.results_two (p := 4) (u := 5) (ty := 157) rfl _ _ w.heap.size 157 _ (0, 0) _ rfl ((((P.Kept.refl _).alloc _).alloc _).pg (P.Pg.alloc w xk xn xg xs 157)).out Tryz.underlying157 rfl P.size157

set_option maxRecDepth 100000 in
set_option maxHeartbeats 1000000 in
theorem read_two {B L : Nat} {I : World → Prop} {w : World} {p kb n : Nat} {fr : Nat × Nat} (R : Stay L I) (hB : B ≤ w.heap.size) (hI : I w) (hk : w.heap[kb]? = some (.cells #[.int .i64 2, .int .i64 3] 3 fr)) (y : Nd) (xn : Int) (xg : Nat) (xs : ByteArray)
    (HL : ∀ W, Kept w W → Calls Tryz.prog 165 #[.pointer (some ⟨p, 0, none⟩), .int .i64 (n : Nat)] W fun e w' => e = .returned (.tuple #[.agg #[.int .i64 (kindOf y), .int .i64 xn, .int .u64 (xg : Nat), .string xs], .int .i64 0]) ∧ Ct B L I W w') :
    Calls Tryz.prog 131 #[.pointer (some ⟨p, 0, none⟩), .int .i64 (n : Nat), .slice (some ⟨kb, 0, none⟩) 2 2] w fun e w' => e = .returned (.tuple #[.agg #[.int .i64 (kindOf y), .int .i64 xn, .int .u64 (xg : Nat), .string xs], .int .i64 0]) ∧ Ct B L I w w' := by
  have Z0 := P.Pg.alloc w 0 0 0 ⟨#[]⟩ 157
  have K1 : Kept w (w.alloc (.cells #[.int .i64 0, .int .i64 0, .int .u64 0, .string ⟨#[]⟩] 157)) := (Kept.refl w).alloc _
  have f1 := HL _ K1
  have f2 : ∀ W : World, W.heap[kb]? = some (.cells #[.int .i64 2, .int .i64 3] 3 fr) → Calls Tryz.prog 166 #[.slice (some ⟨kb, 0, none⟩) 2 2, .int .i64 (kindOf y)] W fun e w' => e = .returned (.bool true) ∧ w' = W := fun W hc => contains_kind y (by rw [cell_of_row _ kb _ _ _ _ hc]; rfl) (by rw [cell_of_row _ kb _ _ _ _ hc]; rfl)
  have HC1 : Hid (Ct B L I w (w.alloc (.cells #[.int .i64 0, .int .i64 0, .int .u64 0, .string ⟨#[]⟩] 157))) := (Ct.start hI).kept R hB K1
  have hk1 := K1.block hk
  generalize kindOf y = xk at *
  clear HL hI
  go_enter Tryz.func131, Tryz.ntmps131
  go_wp2_with (first
    | (go_at_call 165; (with_reducible refine f1.mono ?_); rintro e w1 ⟨rfl, k1⟩; have Z1 : P.Pg w1 w.heap.size 0 0 0 ⟨#[]⟩ 157 := ⟨k1.f.on.rows _ _ _ _ Z0.out G.calm157⟩; have hk2 := k1.f.on.rows _ _ _ _ hk1 calm3; have K2 : Kept w1 (w1.alloc (.cells #[.int .i64 xk, .int .i64 xn, .int .u64 (xg : Nat), .string xs] 157)) := (Kept.refl w1).alloc _; have Z2 := P.Kept.pg ⟨K2.out⟩ Z1; have Y2 := P.Pg.alloc w1 xk xn xg xs 157; have kk := (HC1.out.trans k1).kept R hB K2; have f3 := f2 (w1.alloc (.cells #[.int .i64 xk, .int .i64 xn, .int .u64 (xg : Nat), .string xs] 157)) (K2.block hk2); obtain ⟨y0, y1, y2, y3⟩ := Y2.cs; obtain ⟨⟨z0, h0⟩, ⟨z1, h1⟩, ⟨z2, h2⟩, z3, h3⟩ := Z2.ready xk xn xg; have rA := (Z2.fill xk xn (xg : Nat) xs).out)
    | (go_at_call 166; (with_reducible refine f3.mono ?_); rintro e w2 ⟨rfl, hw2⟩; rw [hw2]; clear hw2))
  refine bodyPost_ret (v := .tuple #[.agg #[.int .i64 xk, .int .i64 xn, .int .u64 (xg : Nat), .string xs], .int .i64 0]) ?_ rfl ⟨rfl, kk.grown R hB (g4_grown _ w.heap.size _ _ _ _) (fun b e => by injection e with e; subst e; exact ⟨Nat.le_refl _, _, _, _, Z2.out, by unfold Pgt; decide⟩)⟩
  exact P.results_two (p := 6) (u := 7) (ty := 157) rfl _ _ w.heap.size 157 _ (0, 0) _ rfl rA Tryz.underlying157 rfl P.size157

theorem Cg.look {B L : Nat} {w : World} {p d g m gen c n : Nat} {root : Int} {M : Pm} {u : Nat → Bool} (h : Cg B L w p d g m gen c root M u) (hB : B ≤ w.heap.size) {y : Nd} (hy : M n = some y) :
    ∃ xg : Nat, ∀ W, Kept w W → Calls Tryz.prog 165 #[.pointer (some ⟨p, 0, none⟩), .int .i64 (n : Nat)] W fun e w' => e = .returned (.tuple #[.agg #[.int .i64 (kindOf y), .int .i64 (n : Nat), .int .u64 (xg : Nat), .string (N.bs y.put)], .int .i64 0]) ∧ Ct B L (fun W => Cg B L W p d g m gen c root M u) W w' := by
  obtain ⟨a, q, ed, em, hG, eg, ef, ⟨e1, e2, e3, e4, e5⟩, eM, eu⟩ := h.out
  obtain ⟨r1, r2, r3⟩ := h.rng n y hy
  obtain ⟨xg, x1, x2, x3⟩ := eM n y hy
  have hfew := h.few
  refine ⟨xg, fun W k0 => ?_⟩
  rcases x3 with x3 | x3
  · have hkd : 1 ≤ kindOf y ∧ kindOf y ≤ 4 := by unfold kindOf; split <;> omega
    have hl1 := hl_le q.held m
    refine (G.look_kept hG hB e5 (by omega) n r1 (by omega) (ef n) e1 x3 e3 ⟨e3.up, fun c r hc => by rw [e2] at hc; cases hc⟩ (M := G.putM (fun _ => none) n (ndp n xg y)) (by unfold G.putM; rw [if_pos rfl]; rfl) hkd.1 hkd.2 (by rw [N.bs_size]; exact r3) x1 x2 W ⟨k0.out⟩).mono ?_
    rintro e w' ⟨rfl, g', o, mo⟩
    refine ⟨rfl, ⟨⟨a, _, ed, em, g', eg, ef, ⟨e1, e2, G.begin_flu e3, e4, ?_⟩, fun k z hz => ?_, eu⟩, h.rng, h.few⟩, ⟨o, fun k es cc hk hm => mo.out k es cc (by omega) hm⟩⟩
    · show Ok (c + hl (G.putM q.held n _) m) _
      rw [hl_put x3, if_pos r2]
      exact D.begin_ok' e5.to'
    · obtain ⟨xg', a1, a2, a3⟩ := eM k z hz
      refine ⟨xg', a1, a2, ?_⟩
      show G.putM q.held n _ k = none ∨ G.putM q.held n _ k = _
      unfold G.putM
      by_cases e : k = n
      · subst e
        rw [if_pos rfl]
        rw [hy] at hz
        obtain rfl := Option.some.inj hz
        rw [x2] at a2
        right
        obtain ⟨l1, hl1, ho1, ew1, ex1, en1⟩ := G.sec_says (M := G.putM (fun _ => none) k (ndp k xg y)) (n := k) (k := kindOf y) (g := xg) (s := N.bs y.put) (by unfold G.putM; rw [if_pos rfl]; rfl) hkd.1 hkd.2 (by omega) (by rw [N.bs_size]; exact r3) x1
        obtain ⟨l2, hl2, ho2, ew2, ex2, en2⟩ := G.sec_says (M := G.putM (fun _ => none) k (ndp k xg' y)) (n := k) (k := kindOf y) (g := xg') (s := N.bs y.put) (by unfold G.putM; rw [if_pos rfl]; rfl) hkd.1 hkd.2 (by omega) (by rw [N.bs_size]; exact r3) a1
        have ee : whole (secOf (G.putM (fun _ => none) k (ndp k xg y)) k) = whole (secOf (G.putM (fun _ => none) k (ndp k xg' y)) k) := by
          have := Option.some.inj a2
          exact congrArg D.Sec.kept this
        rw [ew1, ew2] at ee
        have el := G.bs_inj hl1 hl2 ee
        subst el
        unfold ndp
        rw [ex2, ← ex1]
      · rw [if_neg e]; exact a3
  · refine (look_held2 (hG.kept ⟨k0.out⟩) e1 n (by omega) (ef n) _ x3).mono ?_
    rintro e w' ⟨rfl, k⟩
    exact ⟨rfl, (Ct.start ((Cg.stay B L p d g m gen c root M u).out _ _ h (Aq.ofKept k0))).kept (Cg.stay B L p d g m gen c root M u) (Nat.le_trans hB k0.size) k⟩

theorem Cg.rdr (B L p d g m gen c : Nat) (root : Int) (M : Pm) (u : Nat → Bool) : Rdr B L p (fun W => Cg B L W p d g m gen c root M u) M where
  stay := Cg.stay B L p d g m gen c root M u
  read := fun W kb n fr y hI hB hy hk => by
    obtain ⟨xg, f⟩ := hI.look hB hy
    refine (read_two (xg := xg) (Cg.stay B L p d g m gen c root M u) hB hI hk y (n : Nat) (N.bs y.put) f).mono ?_
    rintro e w' ⟨rfl, k⟩
    exact ⟨⟨xg, rfl⟩, k⟩

theorem Cg.mark {B L : Nat} {w : World} {p d g m gen c n : Nat} {root : Int} {M : Pm} {u : Nat → Bool} (h : Cg B L w p d g m gen c root M u) (hn : n < m) (hu : u n = false) :
    Calls Tryz.prog 107 #[.pointer (some ⟨p, 0, none⟩), .int .i64 (n : Nat)] w fun e w' => e = .returned (.bool true) ∧ Cg B L w' p d g m gen c root M (S.useAt u n) ∧ G.On B w w' := by
  obtain ⟨a, q, ed, em, hG, eg, ef, e5, eM, eu⟩ := h.out
  refine (G.mark_at hG n (by rw [eg.2.2.1]; exact hn) (by rw [(eu n hn).1]; exact hu)).mono ?_
  rintro e w' ⟨rfl, ⟨a', ⟨a1, a2⟩, ⟨a3, a4⟩, g'⟩, o⟩
  refine ⟨by rw [(eu n hn).2.2, hu]; rfl, ⟨⟨a', _, ⟨a1.trans ed.1, a2.trans ed.2⟩, ⟨by rw [a3]; exact em.1, by rw [a4]; exact em.2⟩, g', eg, ef, e5, eM, fun k hk => ?_⟩, h.rng, h.few⟩, o⟩
  obtain ⟨b1, b2, b3⟩ := eu k hk
  show S.useAt q.ut n k = _ ∧ S.useAt q.un n k = _ ∧ S.useAt q.uk n k = _
  unfold S.useAt
  split
  · exact ⟨rfl, rfl, rfl⟩
  · exact ⟨b1, b2, b3⟩
end Go.Proofs.YtifeihnhkbagpaaGreatDoor.T