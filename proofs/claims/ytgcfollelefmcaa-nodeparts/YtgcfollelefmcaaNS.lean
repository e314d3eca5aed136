/- The walks of the document's piece and Put: a node's bytes. Conditions: the node may be. -/
import Derived.Test.YtgcfollelefmcaaNP
namespace Go.Proofs.Ytgcfollelefmcaa
open Go.ChangeShapes Go.WideShapes Go.ChangeAt Go.RowKit

theorem reftext_walkB (s : ByteArray) (h : s.size ≤ 100000) (w : World) : Calls Try.prog 64 #[.string s] w fun e w' => e = .returned (.string (bs (numL s.size ++ un s))) ∧ Kept w w' := by
  have a := reftext_walk (un s) (by rw [un_length]; exact h) w
  rwa [bs_un, un_length] at a
theorem u64_same (q : Nat) (h : q ≤ 100000) : IntKind.u64.wrap (q : Int) = (q : Int) := by rw [IntKind.wrap_u64]; omega

set_option maxHeartbeats 1000000 in
set_option maxRecDepth 100000 in
theorem piece_inner {w : World} {kb ko nk kc ib io ni ic : Nat} {vp : Option Addr} {nv vc : Nat} {i : Nat} {k : ByteArray} {q : Nat} (hi : i < nk) (hi2 : i + 1 < ni) (hnk : nk ≤ 1000) (hc : w.cell? ⟨kb, ko + i, none⟩ = some (.string k)) (hc2 : w.cell? ⟨ib, io + (i + 1), none⟩ = some (.int .i64 (q : Nat))) (hks : k.size ≤ 64) (hq : q ≤ 16432) :
    Calls Try.prog 36 #[.agg #[.bool false, .slice (some ⟨kb, ko, none⟩) nk kc, .slice vp nv vc, .slice (some ⟨ib, io, none⟩) ni ic], .int .i64 (i : Nat)] w fun e w' => e = .returned (.string (bs (keyN k ++ numL q))) ∧ Kept w w' := by
  have HT : Hid (∀ W, Calls Try.prog 64 #[.string k] W fun e w' => e = .returned (.string (bs (keyN k))) ∧ Kept W w') := fun W => reftext_walkB k (by omega) W
  have HN : Hid (∀ W, Calls Try.prog 35 #[.int .u64 (q : Nat)] W fun e w' => e = .returned (.string (bs (numL q))) ∧ Kept W w') := fun W => refnum_walk q (by omega) W
  have hap := bs_append (keyN k) (numL q)
  have z1 := keyN_length k hks
  have z2 := num_small q hq
  rw [← bs_size] at z1 z2
  generalize bs (keyN k) = s1 at *
  generalize bs (numL q) = s2 at *
  have HA : Hid (s1 ++ s2 = bs (keyN k ++ numL q)) := hap
  clear hap
  have hi' : (i : Int) < (nk : Int) := by omega
  have hi2' : (i : Int) + 1 < (ni : Int) := by omega
  have u1 : IntKind.i64.wrap ((i : Int) + 1) = (i : Int) + 1 := by rw [IntKind.wrap_i64]; omega
  have u2 : ((i : Int) + 1).toNat = i + 1 := by omega
  have u3 := u64_same q (by omega)
  have y1 : ¬ 9223372036854775807 < s1.size + s2.size := by omega
  have k0 : Kept w (w.alloc (.cells #[.bool false, .slice (some ⟨kb, ko, none⟩) nk kc, .slice vp nv vc, .slice (some ⟨ib, io, none⟩) ni ic] 37)) := (Kept.refl w).alloc _
  have X0 := C4.alloc w 37 (.bool false) (.slice (some ⟨kb, ko, none⟩) nk kc) (.slice vp nv vc) (.slice (some ⟨ib, io, none⟩) ni ic)
  have c0 := k0.cell hc
  have c1 := k0.cell hc2
  go_enter Try.func36, Try.ntmps36
  go_wp2_with (first
    | (go_at_call 64
       (with_reducible refine (HT.out _).mono ?_)
       rintro e v1 ⟨rfl, k1⟩
       have X1 := X0.kept k1
       have d1 := k1.cell c1
       obtain ⟨a0, a1, a2, a3⟩ := X1.cs)
    | (go_at_call 35
       (with_reducible refine (HN.out _).mono ?_)
       rintro e v2 ⟨rfl, k2⟩))
  go_ret
  rw [HA.out]
  exact ⟨rfl, (k0.trans k1).trans k2⟩

set_option maxHeartbeats 1000000 in
set_option maxRecDepth 100000 in
theorem piece_here {w : World} {kb ko nk kc vb vo nv vc : Nat} {ip : Option Addr} {ni ic : Nat} {i : Nat} {k d : ByteArray} (hi : i < nk) (hi2 : i < nv) (hc : w.cell? ⟨kb, ko + i, none⟩ = some (.string k)) (hc0 : w.cell? ⟨vb, vo + i * 3, none⟩ = some (.string d)) (hc1 : w.cell? ⟨vb, vo + i * 3 + 1, none⟩ = some (.int .i64 (-1))) (hks : k.size ≤ 64) (hd : d.size ≤ 48) :
    Calls Try.prog 36 #[.agg #[.bool true, .slice (some ⟨kb, ko, none⟩) nk kc, .slice (some ⟨vb, vo, none⟩) nv vc, .slice ip ni ic], .int .i64 (i : Nat)] w fun e w' => e = .returned (.string (bs (keyN k ++ (numL 0 ++ (numL d.size ++ un d))))) ∧ Kept w w' := by
  have HT : Hid (∀ W, Calls Try.prog 64 #[.string k] W fun e w' => e = .returned (.string (bs (keyN k))) ∧ Kept W w') := fun W => reftext_walkB k (by omega) W
  have HD : Hid (∀ W, Calls Try.prog 64 #[.string d] W fun e w' => e = .returned (.string (bs (numL d.size ++ un d))) ∧ Kept W w') := fun W => reftext_walkB d (by omega) W
  have e0 : bs (numL 0) = ⟨#[0]⟩ := by rw [numL_last (by decide)]; rfl
  have hap : bs (keyN k) ++ ⟨#[0]⟩ ++ bs (numL d.size ++ un d) = bs (keyN k ++ (numL 0 ++ (numL d.size ++ un d))) := by rw [← e0, bs_append, bs_append, List.append_assoc]
  have z1 := keyN_length k hks
  have z3 : (numL d.size ++ un d).length ≤ 60 := by rw [List.length_append, un_length]; have := num_small d.size (by omega); omega
  rw [← bs_size] at z1 z3
  generalize bs (keyN k) = s1 at *
  generalize bs (numL d.size ++ un d) = s3 at *
  have HA : Hid (s1 ++ ⟨#[0]⟩ ++ s3 = bs (keyN k ++ (numL 0 ++ (numL d.size ++ un d)))) := hap
  clear hap e0
  have hi' : (i : Int) < (nk : Int) := by omega
  have hi2' : (i : Int) < (nv : Int) := by omega
  have y1 : ¬ 9223372036854775807 < s1.size + 1 := by omega
  have y2 : ¬ 9223372036854775807 < s1.size + 1 + s3.size := by omega
  have k0 : Kept w (w.alloc (.cells #[.bool true, .slice (some ⟨kb, ko, none⟩) nk kc, .slice (some ⟨vb, vo, none⟩) nv vc, .slice ip ni ic] 37)) := (Kept.refl w).alloc _
  have X0 := C4.alloc w 37 (.bool true) (.slice (some ⟨kb, ko, none⟩) nk kc) (.slice (some ⟨vb, vo, none⟩) nv vc) (.slice ip ni ic)
  have c0 := k0.cell hc
  have c1 := k0.cell hc0
  have c2 := k0.cell hc1
  go_enter Try.func36, Try.ntmps36
  go_wp2_with (first
    | (go_at_call 64
       (with_reducible refine (HT.out _).mono ?_)
       rintro e v1 ⟨rfl, k1⟩
       have X1 := X0.kept k1
       have d1 := k1.cell c1
       have d2 := k1.cell c2
       obtain ⟨a0, a1, a2, a3⟩ := X1.cs
       clear HT)
    | (go_at_call 64
       (with_reducible refine (HD.out _).mono ?_)
       rintro e v3 ⟨rfl, k3⟩))
  go_ret
  rw [← HA.out]
  exact ⟨rfl, (k0.trans k1).trans k3⟩

set_option maxHeartbeats 1000000 in
set_option maxRecDepth 100000 in
theorem piece_apart {w : World} {kb ko nk kc vb vo nv vc : Nat} {ip : Option Addr} {ni ic : Nat} {i : Nat} {k : ByteArray} {p l : Nat} (hi : i < nk) (hi2 : i < nv) (hc : w.cell? ⟨kb, ko + i, none⟩ = some (.string k)) (hc1 : w.cell? ⟨vb, vo + i * 3 + 1, none⟩ = some (.int .i64 (p : Nat))) (hc2 : w.cell? ⟨vb, vo + i * 3 + 2, none⟩ = some (.int .i64 (l : Nat))) (hks : k.size ≤ 64) (hp : p ≤ 16432) (hl : l ≤ 16432) :
    Calls Try.prog 36 #[.agg #[.bool true, .slice (some ⟨kb, ko, none⟩) nk kc, .slice (some ⟨vb, vo, none⟩) nv vc, .slice ip ni ic], .int .i64 (i : Nat)] w fun e w' => e = .returned (.string (bs (keyN k ++ (numL 1 ++ (numL p ++ numL l))))) ∧ Kept w w' := by
  have HT : Hid (∀ W, Calls Try.prog 64 #[.string k] W fun e w' => e = .returned (.string (bs (keyN k))) ∧ Kept W w') := fun W => reftext_walkB k (by omega) W
  have HP : Hid (∀ W, Calls Try.prog 35 #[.int .u64 (p : Nat)] W fun e w' => e = .returned (.string (bs (numL p))) ∧ Kept W w') := fun W => refnum_walk p (by omega) W
  have HL : Hid (∀ W, Calls Try.prog 35 #[.int .u64 (l : Nat)] W fun e w' => e = .returned (.string (bs (numL l))) ∧ Kept W w') := fun W => refnum_walk l (by omega) W
  have e1 : bs (numL 1) = ⟨#[1]⟩ := by rw [numL_last (by decide)]; rfl
  have hap : bs (keyN k) ++ ⟨#[1]⟩ ++ bs (numL p) ++ bs (numL l) = bs (keyN k ++ (numL 1 ++ (numL p ++ numL l))) := by rw [← e1, bs_append, bs_append, bs_append, List.append_assoc, List.append_assoc]
  have z1 := keyN_length k hks
  have z3 := num_small p hp
  have z4 := num_small l hl
  rw [← bs_size] at z1 z3 z4
  generalize bs (keyN k) = s1 at *
  generalize bs (numL p) = s3 at *
  generalize bs (numL l) = s4 at *
  have HA : Hid (s1 ++ ⟨#[1]⟩ ++ s3 ++ s4 = bs (keyN k ++ (numL 1 ++ (numL p ++ numL l)))) := hap
  clear hap e1
  have hi' : (i : Int) < (nk : Int) := by omega
  have hi2' : (i : Int) < (nv : Int) := by omega
  have u3 := u64_same p (by omega)
  have u4 := u64_same l (by omega)
  have y0 : (0 : Int) ≤ (p : Int) := by omega
  have y1 : ¬ 9223372036854775807 < s1.size + 1 := by omega
  have y2 : ¬ 9223372036854775807 < s1.size + 1 + s3.size := by omega
  have y3 : ¬ 9223372036854775807 < s1.size + 1 + s3.size + s4.size := by omega
  have k0 : Kept w (w.alloc (.cells #[.bool true, .slice (some ⟨kb, ko, none⟩) nk kc, .slice (some ⟨vb, vo, none⟩) nv vc, .slice ip ni ic] 37)) := (Kept.refl w).alloc _
  have X0 := C4.alloc w 37 (.bool true) (.slice (some ⟨kb, ko, none⟩) nk kc) (.slice (some ⟨vb, vo, none⟩) nv vc) (.slice ip ni ic)
  have c0 := k0.cell hc
  have c2 := k0.cell hc1
  have c3 := k0.cell hc2
  go_enter Try.func36, Try.ntmps36
  go_wp2_with (first
    | (go_at_call 64
       (with_reducible refine (HT.out _).mono ?_)
       rintro e v1 ⟨rfl, k1⟩
       have X1 := X0.kept k1
       have d2 := k1.cell c2
       have d3 := k1.cell c3
       obtain ⟨a0, a1, a2, a3⟩ := X1.cs
       clear HT))
  have hd2 : v1.drew.cell? ⟨vb, vo + i * 3 + 1, none⟩ = some (.int .i64 (p : Nat)) := d2
  have hd3 : v1.drew.cell? ⟨vb, vo + i * 3 + 2, none⟩ = some (.int .i64 (l : Nat)) := d3
  have ha2 : v1.drew.cell? ⟨w.heap.size, 2, none⟩ = some (.slice (some ⟨vb, vo, none⟩) nv vc) := a2
  go_region_held3 (fun W => W.cell? ⟨w.heap.size, 2, none⟩ = some (.slice (some ⟨vb, vo, none⟩) nv vc) ∧ W.cell? ⟨vb, vo + i * 3 + 1, none⟩ = some (.int .i64 (p : Nat)) ∧ W.cell? ⟨vb, vo + i * 3 + 2, none⟩ = some (.int .i64 (l : Nat))) (go_keep) (first
    | (go_at_call 35
       (with_reducible refine (HP.out _).mono ?_)
       rintro e v3 ⟨rfl, k3⟩
       clear HP
       have b2 := k3.cell ha2
       have b3 := k3.cell hd2
       have b4 := k3.cell hd3)
    | (go_at_call 35
       (with_reducible refine (HL.out _).mono ?_)
       rintro e v4 ⟨rfl, k4⟩
       have f2 := k4.cell b2
       have f3 := k4.cell b3
       have f4 := k4.cell b4))
  go_wp2
  go_ret
  rw [← HA.out]
  exact ⟨rfl, (((k0.trans k1).drew).trans k3).trans k4⟩

theorem piece_walk {w : World} {l : Bool} {kp : Option Addr} {nk kc : Nat} {vp : Option Addr} {nv vc : Nat} {ip : Option Addr} {ni ic : Nat} {x : Nd} (h : NV w l kp nk kc vp nv vc ip ni ic x) (g : Good x) (i : Nat) (hi : i < nk) :
    Calls Try.prog 36 #[.agg #[.bool l, .slice kp nk kc, .slice vp nv vc, .slice ip ni ic], .int .i64 (i : Nat)] w fun e w' => e = .returned (.string (bs (x.item i))) ∧ Kept w w' := by
  have hnk := h.nk
  have hnv := h.nv
  have hni := h.ni
  obtain ⟨k, hk⟩ : ∃ k, x.ks[i]? = some k := ⟨_, List.getElem?_eq_getElem (by omega)⟩
  obtain ⟨kb, ko, rfl, hkc⟩ := h.k.some (by omega)
  have c0 := hkc i _ (kcl_at hk)
  have hks := g.small k (List.mem_of_getElem? hk)
  cases l with
  | true =>
    have hv2 := (g.lv h.hl).1
    obtain ⟨v, hv⟩ : ∃ v, x.vs[i]? = some v := ⟨_, List.getElem?_eq_getElem (by omega)⟩
    obtain ⟨vb, vo, rfl, hvc⟩ := h.v.some (by omega)
    obtain ⟨a0, a1, a2⟩ := vcl_at hv
    have b0 := hvc _ _ a0
    have b1 := hvc _ _ a1
    have b2 := hvc _ _ a2
    rw [← Nat.add_assoc] at b1 b2
    have e1 : x.item i = keyN k ++ valN v := by unfold Nd.item; rw [hk, hv, if_pos h.hl]; rfl
    rw [e1]
    obtain ⟨d, p, ln⟩ := v
    rcases g.ok _ (List.mem_of_getElem? hv) with ⟨h1, h2, h3⟩ | ⟨h1, p', l', h2, h3, h4, h5, h6⟩
    · simp only at h1 h2 h3
      subst h1; subst h2
      have e2 : valN ⟨d, -1, 0⟩ = numL 0 ++ (numL d.size ++ un d) := by unfold valN; rw [if_pos (by show (-1 : Int) < 0; decide)]
      rw [e2]
      exact piece_here hi (by omega) c0 b0 b1 hks h3
    · simp only at h1 h2 h4
      subst h2; subst h4
      have e2 : valN ⟨d, (p' : Int), (l' : Int)⟩ = numL 1 ++ (numL p' ++ numL l') := by unfold valN; rw [if_neg (by show ¬ (p' : Int) < 0; omega)]; rfl
      rw [e2]
      exact piece_apart hi (by omega) c0 b1 b2 hks (by omega) (by omega)
  | false =>
    have hv2 := (g.li h.hl).1
    obtain ⟨v, hv⟩ : ∃ v, x.is[i + 1]? = some v := ⟨_, List.getElem?_eq_getElem (by omega)⟩
    obtain ⟨ib, io, rfl, hvc⟩ := h.i.some (by omega)
    have b0 := hvc _ _ (icl_at hv)
    obtain ⟨q, rfl, hq⟩ := g.ik v (List.mem_of_getElem? hv)
    have e1 : x.item i = keyN k ++ numL q := by unfold Nd.item; rw [hk, hv, if_neg (by rw [h.hl]; decide)]; rfl
    rw [e1]
    exact piece_inner hi (by omega) (by have := g.few; omega) c0 b0 hks (by omega)
end Go.Proofs.Ytgcfollelefmcaa
