/- The walk of the law that parts fit. Conditions: the list is in memory. -/
import Derived.Test.YtgcfollelefmcaaPH
import Derived.Test.YtgcfollelefmcaaFP
import Derived.Deep.CutBlock
namespace Go.Proofs.Ytgcfollelefmcaa
open Go.ChangeShapes Go.WideShapes Go.ChangeAt Go.RowKit

/-- A node of the first keys. -/
def pre (L : List Ki) (l : Bool) (k : Nat) : Nd := eitherP (L.take k) l
theorem pre_good (L : List Ki) (l : Bool) (k : Nat) : Good (pre L l k) := eitherP_good _ _
theorem pre_zero (L : List Ki) (l : Bool) : (pre L l 0).put.length ≤ 237 := by
  have e : (pre L l 0).ks.length = 0 := by cases l <;> rfl
  have h := head_length (pre_good L l 0)
  rw [put_len, e, Nd.tot_zero]
  omega
/-- So many keys that it is too great by the last one alone. -/
structure Last (L : List Ki) (l : Bool) (k : Nat) : Prop where
  big : 237 < (pre L l k).put.length
  fit : (pre L l k).tot (pre L l k).ks.length ≤ 351
theorem last_of {L : List Ki} {l : Bool} {k : Nat} (hk : k ≤ L.length) (hb : 237 < (pre L l k).put.length) (hs : ∀ j, j < k → (pre L l j).put.length ≤ 237) : Last L l k := by
  refine ⟨hb, ?_⟩
  cases k with
  | zero => have := pre_zero L l; omega
  | succ k =>
    have h1 := either_grows L l k (by omega)
    have h2 := hs k (by omega)
    rw [put_len] at h2
    have h3 : 1 ≤ (pre L l k).head.length := by
      unfold Nd.head
      have := num_pos (pre L l k).ks.length
      rw [List.length_append]
      omega
    change (pre L l (k + 1)).tot _ ≤ (pre L l k).tot _ + 115 at h1
    change (pre L l (k + 1)).tot (pre L l (k + 1)).ks.length ≤ (pre L l k).tot (pre L l k).ks.length + 115 at h1
    omega

set_option maxHeartbeats 1000000 in
set_option maxRecDepth 100000 in
theorem fits_small {w : World} {p : Option Addr} {n c : Nat} {L : List Ki} (h : Gw w p n c L) (l : Bool) (hs : (eitherP L l).put.length ≤ 237) :
    Calls Try.prog 7 #[.slice p n c, .bool l] w fun e w' => e = .returned (.bool true) ∧ Kept w w' := by
  have HE := either_gw h l
  have g := eitherP_good L l
  generalize eitherP L l = x at *
  have HP : Hid (∀ (W : World) (kp : Option Addr) (nk kc : Nat) (vp : Option Addr) (nv vc : Nat) (ip : Option Addr) (ni ic : Nat), NV W l kp nk kc vp nv vc ip ni ic x → Calls Try.prog 9 #[.agg #[.bool l, .slice kp nk kc, .slice vp nv vc, .slice ip ni ic]] W fun e w' => e = .returned (.string (bs x.put)) ∧ Kept W w') := fun W kp nk kc vp nv vc ip ni ic h => put_walk h g
  have hz := bs_size x.put
  rw [← hz] at hs
  generalize bs x.put = s at *
  have hs2 : (s.size : Int) ≤ 237 := by omega
  clear g h hz
  go_enter Try.func7, Try.ntmps7
  go_wp2_with (first
    | (go_at_call 8
       (with_reducible refine HE.mono ?_)
       rintro e v1 ⟨kp, nk, kc, vp, nv, vc, ip, ni, ic, rfl, N1, k1⟩
       have k1a := (Kept.refl v1).alloc (.cells #[.bool l, .slice kp nk kc, .slice vp nv vc, .slice ip ni ic] 27)
       have N1 := N1.kept k1a
       have K1 := k1.trans k1a
       clear HE k1 k1a)
    | (go_at_call 9
       (with_reducible refine (HP.out _ _ _ _ _ _ _ _ _ _ N1).mono ?_)
       rintro e v2 ⟨rfl, k2⟩
       have K2 := K1.trans k2
       clear N1 K1 k2)
    | (go_at_call 11
       (with_reducible refine (awake_walk _).mono ?_)
       rintro e v3 ⟨rfl, k3⟩
       have K3 := K2.trans k3
       clear K2 k3))
  go_ret
  exact ⟨rfl, K3⟩

theorem kicl_take (L : List Ki) (k : Nat) : kicl (L.take k) = (kicl L).take (k * 4) := by
  induction L generalizing k with
  | nil => simp [kicl]
  | cons a r ih =>
    cases k with
    | zero => simp [kicl]
    | succ k =>
      have h4 : a.cells.length = 4 := rfl
      rw [List.take_succ_cons, kicl_cons, kicl_cons, ih, show (k + 1) * 4 = k * 4 + 4 by omega, List.take_append, h4, Nat.add_sub_cancel, List.take_of_length_le (l := a.cells) (i := k * 4 + 4) (by rw [h4]; omega)]
theorem low_empty (W : World) : Calls Try.prog 25 #[.agg #[.bool true, .slice none 0 0, .slice none 0 0, .slice none 0 0]] W fun e w' => e = .returned (.bool true) ∧ Kept W w' := by
  have V : NV W true none 0 0 none 0 0 none 0 0 ⟨true, [], [], []⟩ := ⟨rfl, rw_nil _ _, rw_nil _ _, rw_nil _ _⟩
  have g : Good ⟨true, [], [], []⟩ := ⟨Nat.zero_le _, fun _ h => (by cases h), fun _ => ⟨rfl, rfl⟩, (fun h => by cases h), fun _ h => (by cases h), fun _ h => (by cases h)⟩
  refine (low_walk V g).mono ?_
  rintro e w' ⟨rfl, k⟩
  have hl : (Nd.put ⟨true, [], [], []⟩).length < 79 := by
    have h := head_length g
    rw [put_len]
    show _ + Nd.tot ⟨true, [], [], []⟩ 0 < 79
    rw [Nd.tot_zero]
    omega
  exact ⟨by rw [decide_eq_true hl], k⟩

set_option maxHeartbeats 4000000 in
set_option maxRecDepth 100000 in
theorem fits_great {w : World} {p : Option Addr} {n c : Nat} {L : List Ki} (h : Gw w p n c L) (l : Bool) (hbig : 237 < (eitherP L l).put.length) :
    Calls Try.prog 7 #[.slice p n c, .bool l] w fun e w' => e = .returned (.bool true) ∧ Kept w w' := by
  have hz := pre_zero L l
  obtain ⟨hv, hn⟩ : Gv w p n c L ∧ 0 < n := by
    rcases h with h | ⟨rfl, rfl⟩
    · refine ⟨h, ?_⟩
      have hl := h.out.len
      rw [kicl_length] at hl
      rcases Nat.eq_zero_or_pos n with e | e
      · have : L = [] := List.length_eq_zero_iff.1 (by omega)
        subst this
        change (eitherP [] l).put.length ≤ 237 at hz
        omega
      · exact e
    · change (eitherP [] l).put.length ≤ 237 at hz
      omega
  have hlen : L.length = n := by have hl := hv.out.len; rw [kicl_length] at hl; omega
  have hcap := hv.out.le
  have hcap2 := hv.out.cap
  obtain ⟨pb, po, rfl, hcs⟩ := hv.out.some hn
  have HE : Hid (∀ W, Kept w W → ∀ k : Nat, k ≤ n → Calls Try.prog 8 #[.slice (some ⟨pb, po, none⟩) k c, .bool l] W fun e w' => ∃ kp nk kc vp nv vc ip ni ic, e = .returned (.agg #[.bool l, .slice kp nk kc, .slice vp nv vc, .slice ip ni ic]) ∧ NV w' l kp nk kc vp nv vc ip ni ic (pre L l k) ∧ Kept W w') := by
    intro W hW k hk
    have r := (hW.rw hv.out).take k hk
    rw [← kicl_take] at r
    exact either_walk ⟨r⟩ l
  have HP : Hid (∀ (k : Nat) (W : World) (kp : Option Addr) (nk kc : Nat) (vp : Option Addr) (nv vc : Nat) (ip : Option Addr) (ni ic : Nat), NV W l kp nk kc vp nv vc ip ni ic (pre L l k) → Calls Try.prog 9 #[.agg #[.bool l, .slice kp nk kc, .slice vp nv vc, .slice ip ni ic]] W fun e w' => e = .returned (.string (bs (pre L l k).put)) ∧ Kept W w') := fun k W kp nk kc vp nv vc ip ni ic h => put_walk h (pre_good L l k)
  have hN : 237 < (pre L l n).put.length := by
    have : pre L l n = eitherP L l := by unfold pre; rw [← hlen, List.take_length]
    rw [this]; exact hbig
  have HN : Hid (237 < (pre L l n).put.length) := hN
  have HZ : Hid (∀ k, (bs (pre L l k).put).size = (pre L l k).put.length) := fun k => bs_size _
  have HLL : Hid (L.length = n) := hlen
  have HPT : Hid (∀ (k : Nat) (W : World) (kp : Option Addr) (nk kc : Nat) (vp : Option Addr) (nv vc : Nat) (ip : Option Addr) (ni ic : Nat), Last L l k → NV W l kp nk kc vp nv vc ip ni ic (pre L l k) → Calls Try.prog 23 #[.agg #[.bool l, .slice kp nk kc, .slice vp nv vc, .slice ip ni ic]] W fun e w' => ∃ (g m : Nat) (key : ByteArray) (kpA : Option Addr) (nkA kcA : Nat) (vpA : Option Addr) (nvA vcA : Nat) (ipA : Option Addr) (niA icA : Nat) (kpB : Option Addr) (nkB kcB : Nat) (vpB : Option Addr) (nvB vcB : Nat) (ipB : Option Addr) (niB icB : Nat), e = .returned (.tuple #[.slice (some ⟨g, 0, none⟩) 2 2, .string key]) ∧ (pre L l k).ks[m]? = some key ∧ Mid (pre L l k) 0 m ∧ w'.heap[g]? = some (.cells #[.bool l, .slice kpA nkA kcA, .slice vpA nvA vcA, .slice ipA niA icA, .bool l, .slice kpB nkB kcB, .slice vpB nvB vcB, .slice ipB niB icB] 27) ∧ NZ w' l kpA nkA kcA vpA nvA vcA ipA niA icA ((pre L l k).fst m) ∧ NZ w' l kpB nkB kcB vpB nvB vcB ipB niB icB ((pre L l k).snd m) ∧ Kept W w') := fun k W kp nk kc vp nv vc ip ni ic hl h => part_walk h (pre_good L l k) hl.big
  have HLX : Hid (∀ (W : World) (kp : Option Addr) (nk kc : Nat) (vp : Option Addr) (nv vc : Nat) (ip : Option Addr) (ni ic : Nat), NV W l kp nk kc vp nv vc ip ni ic (pre L l n) → Calls Try.prog 25 #[.agg #[.bool l, .slice kp nk kc, .slice vp nv vc, .slice ip ni ic]] W fun e w' => e = .returned (.bool false) ∧ Kept W w') := fun W kp nk kc vp nv vc ip ni ic h => by
    refine (low_walk h (pre_good L l n)).mono ?_
    rintro e w' ⟨rfl, k⟩
    exact ⟨by rw [decide_eq_false (by omega)], k⟩
  obtain ⟨s, hs⟩ : ∃ s, s = bs (pre L l n).put := ⟨_, rfl⟩
  have hss : 237 < s.size := by rw [hs, HZ.out]; exact hN
  have hs2 : ¬ (s.size : Int) ≤ 237 := by omega
  have hs3 : ¬ (s.size : Int) < 79 := by omega
  have HPN : Hid (∀ (W : World) (kp : Option Addr) (nk kc : Nat) (vp : Option Addr) (nv vc : Nat) (ip : Option Addr) (ni ic : Nat), NV W l kp nk kc vp nv vc ip ni ic (pre L l n) → Calls Try.prog 9 #[.agg #[.bool l, .slice kp nk kc, .slice vp nv vc, .slice ip ni ic]] W fun e w' => e = .returned (.string s) ∧ Kept W w') := fun W kp nk kc vp nv vc ip ni ic h => by rw [hs]; exact put_walk h (pre_good L l n)
  have hc63 : c ≤ 9223372036854775807 := hv.out.small
  clear h hz hbig hlen hcs hN hss hs
  have K0 : Kept w w := Kept.refl w
  go_enter Try.func7, Try.ntmps7
  go_upto_block 0 with (first
    | (go_at_call 8
       (with_reducible refine (HE.out _ K0 n (Nat.le_refl _)).mono ?_)
       rintro e v1 ⟨kp, nk, kc, vp, nv, vc, ip, ni, ic, rfl, N1, k1⟩
       have k1a := (Kept.refl v1).alloc (.cells #[.bool l, .slice kp nk kc, .slice vp nv vc, .slice ip ni ic] 27)
       have X1 := C4.alloc v1 27 (.bool l) (.slice kp nk kc) (.slice vp nv vc) (.slice ip ni ic)
       have N1 := N1.kept k1a
       have K1 := k1.trans k1a
       clear K0 k1 k1a)
    | (go_at_call 9
       (with_reducible refine (HPN.out _ _ _ _ _ _ _ _ _ _ N1).mono ?_)
       rintro e v2 ⟨rfl, k2⟩
       have X2 := X1.kept k2
       have N2 := N1.kept k2
       have K2 := K1.trans k2
       clear X1 N1 K1 k2)
    | (go_at_call 11
       (with_reducible refine (awake_walk _).mono ?_)
       rintro e v3 ⟨rfl, k3⟩
       have X3 := X2.kept k3
       have N3 := N2.kept k3
       have K3 := K2.trans k3
       clear X2 N2 K2 k3))
  generalize v1.heap.size = b5 at *
  go_cut [6] from 22 to 37 (fun kv wx => ∃ k : Nat, kv = .int .i64 (k : Nat) ∧ k ≤ n ∧ Hid (Last L l k) ∧ Kept v3 wx)
  case first =>
    go_wp2_with fail
    go_loopg [6] n (fun gg kv wx => ∃ k : Nat, kv = .int .i64 (k : Nat) ∧ Hid (gg = n - k) ∧ k ≤ n ∧ Hid (∀ j, j < k → (pre L l j).put.length ≤ 237) ∧ Kept v3 wx)
    case atStart => exact ⟨0, rfl, rfl, Nat.zero_le _, fun j hj => absurd hj (Nat.not_lt_zero _), Kept.refl _⟩
    case round =>
      obtain ⟨k, rfl, hg, hkn, HS, K⟩ := hrel
      by_cases h1 : k < n
      · have h1' : (k : Int) < (n : Int) := by omega
        have q1 : (k : Int) ≤ (c : Int) := by omega
        have HEk : Hid (∀ W, Kept w W → Calls Try.prog 8 #[.slice (some ⟨pb, po, none⟩) k c, .bool l] W fun e w' => ∃ kp nk kc vp nv vc ip ni ic, e = .returned (.agg #[.bool l, .slice kp nk kc, .slice vp nv vc, .slice ip ni ic]) ∧ NV w' l kp nk kc vp nv vc ip ni ic (pre L l k) ∧ Kept W w') := fun W hW => HE.out W hW k hkn
        have HPk : Hid (∀ (W : World) (kp : Option Addr) (nk kc : Nat) (vp : Option Addr) (nv vc : Nat) (ip : Option Addr) (ni ic : Nat), NV W l kp nk kc vp nv vc ip ni ic (pre L l k) → Calls Try.prog 9 #[.agg #[.bool l, .slice kp nk kc, .slice vp nv vc, .slice ip ni ic]] W fun e w' => e = .returned (.string (bs (pre L l k).put)) ∧ Kept W w') := HP.out k
        have HZk := HZ.out k
        by_cases h2 : (pre L l k).put.length ≤ 237
        · have HS2 : Hid (∀ j, j < k + 1 → (pre L l j).put.length ≤ 237) := fun j hj => by
            rcases Nat.lt_or_ge j k with h | h
            · exact HS.out j h
            · obtain rfl : j = k := by omega
              exact h2
          rw [← HZk] at h2
          generalize bs (pre L l k).put = sk at *
          have h2' : (sk.size : Int) ≤ 237 := by omega
          go_wp2_with (first
            | (go_at_call 8
               (with_reducible refine (HEk.out _ (K3.trans K)).mono ?_)
               rintro e y1 ⟨kpZ, nkZ, kcZ, vpZ, nvZ, vcZ, ipZ, niZ, icZ, rfl, NZ1, j1⟩)
            | (go_at_call 9
               (with_reducible refine (HPk.out _ _ _ _ _ _ _ _ _ _ NZ1).mono ?_)
               rintro e y2 ⟨rfl, j2⟩))
          go_roundg (n - (k + 1))
          case measure => rw [hg.out]; omega
          case rel => exact ⟨k + 1, by go_num, rfl, by omega, HS2.out, K.trans (j1.trans j2)⟩
        · have HLS : Hid (Last L l k) := last_of (by have := HLL.out; omega) (by omega) HS.out
          rw [← HZk] at h2
          generalize bs (pre L l k).put = sk at *
          have h2' : ¬ (sk.size : Int) ≤ 237 := by omega
          go_wp2_with (first
            | (go_at_call 8
               (with_reducible refine (HEk.out _ (K3.trans K)).mono ?_)
               rintro e y1 ⟨kpZ, nkZ, kcZ, vpZ, nvZ, vcZ, ipZ, niZ, icZ, rfl, NZ1, j1⟩)
            | (go_at_call 9
               (with_reducible refine (HPk.out _ _ _ _ _ _ _ _ _ _ NZ1).mono ?_)
               rintro e y2 ⟨rfl, j2⟩))
          go_meet
          exact ⟨k, rfl, hkn, HLS, K.trans (j1.trans j2)⟩
      · obtain rfl : n = k := by omega
        have h1' : ¬ ((n : Int) < (n : Int)) := by omega
        have HLS : Hid (Last L l n) := last_of (by have := HLL.out; omega) HN.out HS.out
        go_wp2
        go_meet
        exact ⟨n, rfl, Nat.le_refl _, HLS, K⟩
  case rest =>
    obtain ⟨k, rfl, hkn, HLS, k4⟩ := hcut
    have X4 := X3.kept k4
    have N4 := N3.kept k4
    have K4 := K3.trans k4
    clear X3 N3 K3 k4
    have q1 : (k : Int) ≤ (c : Int) := by omega
    have HEk : Hid (∀ W, Kept w W → Calls Try.prog 8 #[.slice (some ⟨pb, po, none⟩) k c, .bool l] W fun e w' => ∃ kp nk kc vp nv vc ip ni ic, e = .returned (.agg #[.bool l, .slice kp nk kc, .slice vp nv vc, .slice ip ni ic]) ∧ NV w' l kp nk kc vp nv vc ip ni ic (pre L l k) ∧ Kept W w') := fun W hW => HE.out W hW k hkn
    have G : Hid (Good (pre L l k)) := pre_good L l k
    have HPT2 : Hid (∀ (W : World) (kp : Option Addr) (nk kc : Nat) (vp : Option Addr) (nv vc : Nat) (ip : Option Addr) (ni ic : Nat), NV W l kp nk kc vp nv vc ip ni ic (pre L l k) → Calls Try.prog 23 #[.agg #[.bool l, .slice kp nk kc, .slice vp nv vc, .slice ip ni ic]] W fun e w' => ∃ (g m : Nat) (key : ByteArray) (kpA : Option Addr) (nkA kcA : Nat) (vpA : Option Addr) (nvA vcA : Nat) (ipA : Option Addr) (niA icA : Nat) (kpB : Option Addr) (nkB kcB : Nat) (vpB : Option Addr) (nvB vcB : Nat) (ipB : Option Addr) (niB icB : Nat), e = .returned (.tuple #[.slice (some ⟨g, 0, none⟩) 2 2, .string key]) ∧ (pre L l k).ks[m]? = some key ∧ Mid (pre L l k) 0 m ∧ w'.heap[g]? = some (.cells #[.bool l, .slice kpA nkA kcA, .slice vpA nvA vcA, .slice ipA niA icA, .bool l, .slice kpB nkB kcB, .slice vpB nvB vcB, .slice ipB niB icB] 27) ∧ NZ w' l kpA nkA kcA vpA nvA vcA ipA niA icA ((pre L l k).fst m) ∧ NZ w' l kpB nkB kcB vpB nvB vcB ipB niB icB ((pre L l k).snd m) ∧ Kept W w') := fun W kp nk kc vp nv vc ip ni ic h => HPT.out k W kp nk kc vp nv vc ip ni ic HLS.out h
    clear HE HPT HP HZ HN
    go_wp2_with (first
      | (go_at_call 8
         (with_reducible refine (HEk.out _ K4).mono ?_)
         rintro e v5 ⟨kpZ, nkZ, kcZ, vpZ, nvZ, vcZ, ipZ, niZ, icZ, rfl, NZ1, j1⟩
         have X5 := X4.kept j1
         have N5 := N4.kept j1
         have K5 := K4.trans j1
         clear X4 N4 K4 j1 HEk)
      | (go_at_call 23
         (with_reducible refine (HPT2.out _ _ _ _ _ _ _ _ _ _ NZ1).mono ?_)
         rintro e v6 ⟨g, m, key, kpA, nkA, kcA, vpA, nvA, vcA, ipA, niA, icA, kpB, nkB, kcB, vpB, nvB, vcB, ipB, niB, icB, rfl, hky, HM, hg, ZA, ZB, j2⟩
         have X6 := X5.kept j2
         have N6 := N5.kept j2
         have K6 := K5.trans j2
         have HG : Hid (v6.heap[g]? = some (.cells #[.bool l, .slice kpA nkA kcA, .slice vpA nvA vcA, .slice ipA niA icA, .bool l, .slice kpB nkB kcB, .slice vpB nvB vcB, .slice ipB niB icB] 27)) := hg
         have HA : Hid (∀ W, Kept v6 W → Calls Try.prog 9 #[.agg #[.bool l, .slice kpA nkA kcA, .slice vpA nvA vcA, .slice ipA niA icA]] W fun e w' => e = .returned (.string (bs ((pre L l k).fst m).put)) ∧ Kept W w') := fun W hW => put_walk (ZA.nv.kept hW) (fst_good G.out HM.lt)
         have HB : Hid (∀ W, Kept v6 W → Calls Try.prog 9 #[.agg #[.bool l, .slice kpB nkB kcB, .slice vpB nvB vcB, .slice ipB niB icB]] W fun e w' => e = .returned (.string (bs ((pre L l k).snd m).put)) ∧ Kept W w') := fun W hW => put_walk (ZB.nv.kept hW) (snd_good G.out HM.lt)
         have hfit := parts_fit G.out HM HLS.out.fit
         have hz1 := bs_size ((pre L l k).fst m).put
         have hz2 := bs_size ((pre L l k).snd m).put
         rw [← hz1, ← hz2] at hfit
         obtain ⟨sa, hsa⟩ : ∃ sa, sa = bs ((pre L l k).fst m).put := ⟨_, rfl⟩
         obtain ⟨sb, hsb⟩ : ∃ sb, sb = bs ((pre L l k).snd m).put := ⟨_, rfl⟩
         rw [← hsa] at HA
         rw [← hsb] at HB
         rw [← hsa, ← hsb] at hfit
         have f1 : ¬ (237 : Int) < (sa.size : Int) := (by omega)
         have f2 : ¬ (237 : Int) < (sb.size : Int) := (by omega)
         clear X5 N5 K5 j2 hg hky HM ZA ZB hz1 hz2 hsa hsb hfit NZ1 HPT2))
    go_loopg [9] 2 (fun gg iv wx => ∃ i : Nat, iv = .int .i64 (i : Nat) ∧ Hid (gg = 2 - i) ∧ i ≤ 2 ∧ Kept v6 wx)
    case atStart => exact ⟨0, rfl, rfl, by omega, Kept.refl _⟩
    case round =>
      obtain ⟨i, rfl, hg, hi2, K⟩ := hrel
      obtain ⟨d0, d1, d2, d3, d4, d5, d6, d7⟩ := cells8 (K.block HG.out)
      obtain rfl | rfl | rfl : i = 0 ∨ i = 1 ∨ i = 2 := by omega
      · go_wp2_with (first
          | (go_at_call 9
             (with_reducible refine (HA.out _ K).mono ?_)
             rintro e y1 ⟨rfl, j1⟩))
        go_roundg 1
        case measure => rw [hg.out]; omega
        case rel => exact ⟨1, by go_num, rfl, by omega, K.trans j1⟩
      · go_wp2_with (first
          | (go_at_call 9
             (with_reducible refine (HB.out _ K).mono ?_)
             rintro e y1 ⟨rfl, j1⟩))
        go_roundg 0
        case measure => rw [hg.out]; omega
        case rel => exact ⟨2, by go_num, rfl, by omega, K.trans j1⟩
      · go_wp2_with fail
        have X7 := X6.kept K
        have N7 := N6.kept K
        have K7 := K6.trans K
        have KD : Kept wr wr.drew := (Kept.refl wr).drew
        have HSA : Hid (∀ W, Kept wr W → W.cell? ⟨b5, 0, none⟩ = some (.bool l) ∧ W.cell? ⟨b5, 1, none⟩ = some (.slice kp nk kc) ∧ W.cell? ⟨b5, 2, none⟩ = some (.slice vp nv vc) ∧ W.cell? ⟨b5, 3, none⟩ = some (.slice ip ni ic)) := fun W hW => (X7.kept hW).cs
        clear d0 d1 d2 d3 d4 d5 d6 d7 X6 N6 K6 X7 HG HA HB
        go_region_held3 (fun W => W.cell? ⟨b5, 0, none⟩ = some (.bool l) ∧ W.cell? ⟨b5, 1, none⟩ = some (.slice kp nk kc) ∧ W.cell? ⟨b5, 2, none⟩ = some (.slice vp nv vc) ∧ W.cell? ⟨b5, 3, none⟩ = some (.slice ip ni ic)) (exact HSA.out _ (by assumption)) (first
          | (go_at_call 25
             (with_reducible refine (low_empty _).mono ?_)
             rintro e y1 ⟨rfl, j1⟩
             have J1 := KD.trans j1
             clear j1 KD)
          | (go_at_call 25
             (with_reducible refine (HLX.out _ _ _ _ _ _ _ _ _ _ (N7.kept J1)).mono ?_)
             rintro e y2 ⟨rfl, j2⟩
             have J2 := J1.trans j2
             clear j2 J1)
          | (go_at_call 9
             (with_reducible refine (HPN.out _ _ _ _ _ _ _ _ _ _ (N7.kept J2)).mono ?_)
             rintro e y3 ⟨rfl, j3⟩
             have J3 := J2.trans j3
             clear j3 J2))
        go_wp2
        go_ret
        refine ⟨?_, K7.trans J3⟩
        show Ending.returned (Value.bool (!decide ((s.size : Int) < 79))) = _
        rw [decide_eq_false (by omega)]
        rfl

theorem fits_walk {w : World} {p : Option Addr} {n c : Nat} {L : List Ki} (h : Gw w p n c L) (l : Bool) :
    Calls Try.prog 7 #[.slice p n c, .bool l] w fun e w' => e = .returned (.bool true) ∧ Kept w w' := by
  by_cases hs : (eitherP L l).put.length ≤ 237
  · exact fits_small h l hs
  · exact fits_great h l (by omega)
end Go.Proofs.Ytgcfollelefmcaa
