/- The walk of the document's Put: a node's bytes. Conditions: the node may be. -/
import Derived.Test.YtgcfollelefmcaaNS
namespace Go.Proofs.Ytgcfollelefmcaa
open Go.ChangeShapes Go.WideShapes Go.ChangeAt Go.RowKit

set_option maxHeartbeats 1000000 in
set_option maxRecDepth 100000 in
theorem refput_true {w : World} {kp : Option Addr} {nk kc : Nat} {vp : Option Addr} {nv vc : Nat} {ip : Option Addr} {ni ic : Nat} {x : Nd} (h : NV w true kp nk kc vp nv vc ip ni ic x) (g : Good x) :
    Calls Try.prog 12 #[.agg #[.bool true, .slice kp nk kc, .slice vp nv vc, .slice ip ni ic]] w fun e w' => e = .returned (.string (bs x.put)) ∧ Kept w w' := by
  have hf : nk ≤ 100 := by have := g.few; have := h.nk; omega
  have G : Hid (Good x) := g
  have HV : Hid (NV w true kp nk kc vp nv vc ip ni ic x) := h
  have HKL : Hid (x.ks.length = nk) := h.nk
  have HN : Hid (∀ W, Calls Try.prog 35 #[.int .u64 (nk : Nat)] W fun e w' => e = .returned (.string (bs (numL nk))) ∧ Kept W w') := fun W => refnum_walk nk (by omega) W
  have u0 := u64_same nk (by omega)
  have HHD : Hid (x.head = numL nk) := by show _ = _; unfold Nd.head; rw [if_pos h.hl, h.nk]; simp
  have K0 : Kept w (w.alloc (.cells #[.bool true, .slice kp nk kc, .slice vp nv vc, .slice ip ni ic] 37)) := (Kept.refl w).alloc _
  have X0 := C4.alloc w 37 (.bool true) (.slice kp nk kc) (.slice vp nv vc) (.slice ip ni ic)
  have HIT : Hid (∀ i, i ≤ nk → (x.items i).length ≤ i * 115) := fun i hi => items_length g i (by have := h.nk; omega)
  have HIL : Hid (∀ i, i < nk → (x.item i).length ≤ 115) := fun i hi => item_length g i (by have := h.nk; omega)
  have HHL : Hid (x.head.length ≤ 6) := head_length g
  clear h g
  go_enter Try.func12, Try.ntmps12
  go_wp2_with (first
    | (go_at_call 35
       (with_reducible refine (HN.out _).mono ?_)
       rintro e v1 ⟨rfl, k1⟩
       have X1 := X0.kept k1
       have K1 := K0.trans k1
       obtain ⟨a0, a1, a2, a3⟩ := X1.cs
       clear HN X0))
  have T9 : Hid (Value.string (bs (numL nk)) = Value.string (bs (x.head ++ x.items 0))) := by show _ = _; rw [HHD.out, Nd.items, List.append_nil]
  go_loopg [3, 4] nk (fun gg sv iv wx => ∃ i : Nat, sv = .string (bs (x.head ++ x.items i)) ∧ iv = .int .i64 (i : Nat) ∧ Hid (gg = nk - i) ∧ i ≤ nk ∧ C4 wx w.heap.size 37 (.bool true) (.slice kp nk kc) (.slice vp nv vc) (.slice ip ni ic) ∧ Kept w wx)
  case atStart => exact ⟨0, T9.out, rfl, rfl, Nat.zero_le _, X1, K1⟩
  case round =>
    obtain ⟨i, rfl, rfl, hg, hin, X, K⟩ := hrel
    obtain ⟨b0, b1, b2, b3⟩ := X.cs
    by_cases h1 : i < nk
    · have h1' : (i : Int) < (nk : Int) := by omega
      have HI : Hid (∀ W, Kept w W → Calls Try.prog 36 #[.agg #[.bool true, .slice kp nk kc, .slice vp nv vc, .slice ip ni ic], .int .i64 (i : Nat)] W fun e w' => e = .returned (.string (bs (x.item i))) ∧ Kept W w') := fun W hW => piece_walk (HV.out.kept hW) G.out i h1
      have hap := bs_append (x.head ++ x.items i) (x.item i)
      have z1 := bs_size (x.head ++ x.items i)
      have z2 := bs_size (x.item i)
      have hlen : (x.head ++ x.items i).length + (x.item i).length ≤ 100000 := by
        have p1 := HIT.out i hin
        have p2 := HIL.out i h1
        have p3 := HHL.out
        rw [List.length_append]
        omega
      have y1 : ¬ 9223372036854775807 < (bs (x.head ++ x.items i)).size + (bs (x.item i)).size := by omega
      have HE : Hid (bs (x.head ++ x.items (i + 1)) = bs (x.head ++ x.items i) ++ bs (x.item i)) := by show _ = _; rw [hap, Nd.items, List.append_assoc]
      clear hap hlen z1 z2
      generalize bs (x.head ++ x.items i) = s1 at *
      generalize bs (x.item i) = s2 at *
      go_wp2_with (first
        | (go_at_call 36
           (with_reducible refine (HI.out _ K).mono ?_)
           rintro e v5 ⟨rfl, k5⟩))
      go_roundg (nk - (i + 1))
      case measure => rw [hg.out]; omega
      case rel => exact ⟨i + 1, by rw [HE.out], by go_num, rfl, by omega, X.kept k5, K.trans k5⟩
    · obtain rfl : nk = i := by omega
      have h1' : ¬ ((nk : Int) < (nk : Int)) := by omega
      go_wp2
      go_ret
      refine ⟨?_, K⟩
      unfold Nd.put
      rw [HKL.out]
      rfl

set_option maxHeartbeats 1000000 in
set_option maxRecDepth 100000 in
theorem refput_false {w : World} {kp : Option Addr} {nk kc : Nat} {vp : Option Addr} {nv vc : Nat} {ip : Option Addr} {ni ic : Nat} {x : Nd} (h : NV w false kp nk kc vp nv vc ip ni ic x) (g : Good x) :
    Calls Try.prog 12 #[.agg #[.bool false, .slice kp nk kc, .slice vp nv vc, .slice ip ni ic]] w fun e w' => e = .returned (.string (bs x.put)) ∧ Kept w w' := by
  have hf : nk ≤ 100 := by have := g.few; have := h.nk; omega
  have G : Hid (Good x) := g
  have HV : Hid (NV w false kp nk kc vp nv vc ip ni ic x) := h
  have HKL : Hid (x.ks.length = nk) := h.nk
  have HN : Hid (∀ W, Calls Try.prog 35 #[.int .u64 (nk : Nat)] W fun e w' => e = .returned (.string (bs (numL nk))) ∧ Kept W w') := fun W => refnum_walk nk (by omega) W
  have u0 := u64_same nk (by omega)
  obtain ⟨q, hq0, hqs⟩ : ∃ q : Nat, x.is[0]? = some (q : Int) ∧ q ≤ 16383 := by
    have hv2 := (g.li h.hl).1
    obtain ⟨v, hv⟩ : ∃ v, x.is[0]? = some v := ⟨_, List.getElem?_eq_getElem (by omega)⟩
    obtain ⟨q, rfl, hq⟩ := g.ik v (List.mem_of_getElem? hv)
    exact ⟨q, hv, hq⟩
  have HHD : Hid (x.head = numL nk ++ numL q) := by show _ = _; unfold Nd.head; rw [if_neg (by rw [h.hl]; decide), h.nk, hq0]; simp
  have HQ : Hid (∀ W, Calls Try.prog 35 #[.int .u64 (q : Nat)] W fun e w' => e = .returned (.string (bs (numL q))) ∧ Kept W w') := fun W => refnum_walk q (by omega) W
  have u1 := u64_same q (by omega)
  have hap := bs_append (numL nk) (numL q)
  have z1 := num_small nk (by omega)
  have z2 := num_small q (by omega)
  rw [← bs_size] at z1 z2
  have y0 : ¬ 9223372036854775807 < (bs (numL nk)).size + (bs (numL q)).size := by omega
  have HAP : Hid (bs (numL nk) ++ bs (numL q) = bs (numL nk ++ numL q)) := hap
  obtain ⟨ib, io, rfl, hic⟩ := h.i.some (by have := (g.li h.hl).1; have := h.ni; omega)
  have hin2 : (0 : Int) < (ni : Int) := by have := (g.li h.hl).1; have := h.ni; omega
  have hin3 : 0 < ni := by omega
  have hq1 := hic 0 _ (icl_at hq0)
  rw [Nat.add_zero] at hq1
  clear hap z1 z2 hq0 hic
  have K0 : Kept w (w.alloc (.cells #[.bool false, .slice kp nk kc, .slice vp nv vc, .slice (some ⟨ib, io, none⟩) ni ic] 37)) := (Kept.refl w).alloc _
  have X0 := C4.alloc w 37 (.bool false) (.slice kp nk kc) (.slice vp nv vc) (.slice (some ⟨ib, io, none⟩) ni ic)
  have HIT : Hid (∀ i, i ≤ nk → (x.items i).length ≤ i * 115) := fun i hi => items_length g i (by have := h.nk; omega)
  have HIL : Hid (∀ i, i < nk → (x.item i).length ≤ 115) := fun i hi => item_length g i (by have := h.nk; omega)
  have HHL : Hid (x.head.length ≤ 6) := head_length g
  clear h g
  go_enter Try.func12, Try.ntmps12
  go_wp2_with (first
    | (go_at_call 35
       (with_reducible refine (HN.out _).mono ?_)
       rintro e v1 ⟨rfl, k1⟩
       have X1 := X0.kept k1
       have K1 := K0.trans k1
       obtain ⟨a0, a1, a2, a3⟩ := X1.cs
       clear HN X0
       have hq2 := (K0.trans k1).cell hq1)
    | (go_at_call 35
       (with_reducible refine (HQ.out _).mono ?_)
       rintro e v2 ⟨rfl, k2⟩
       have X2 := X1.kept k2
       have K2 := K1.trans k2
       obtain ⟨c0, c1, c2, c3⟩ := X2.cs))
  have T9 : Hid (Value.string (bs (numL nk) ++ bs (numL q)) = Value.string (bs (x.head ++ x.items 0))) := by show _ = _; rw [HHD.out, Nd.items, List.append_nil, HAP.out]
  go_loopg [3, 4] nk (fun gg sv iv wx => ∃ i : Nat, sv = .string (bs (x.head ++ x.items i)) ∧ iv = .int .i64 (i : Nat) ∧ Hid (gg = nk - i) ∧ i ≤ nk ∧ C4 wx w.heap.size 37 (.bool false) (.slice kp nk kc) (.slice vp nv vc) (.slice (some ⟨ib, io, none⟩) ni ic) ∧ Kept w wx)
  case atStart => exact ⟨0, T9.out, rfl, rfl, Nat.zero_le _, X2, K2⟩
  case round =>
    obtain ⟨i, rfl, rfl, hg, hin, X, K⟩ := hrel
    obtain ⟨b0, b1, b2, b3⟩ := X.cs
    by_cases h1 : i < nk
    · have h1' : (i : Int) < (nk : Int) := by omega
      have HI : Hid (∀ W, Kept w W → Calls Try.prog 36 #[.agg #[.bool false, .slice kp nk kc, .slice vp nv vc, .slice (some ⟨ib, io, none⟩) ni ic], .int .i64 (i : Nat)] W fun e w' => e = .returned (.string (bs (x.item i))) ∧ Kept W w') := fun W hW => piece_walk (HV.out.kept hW) G.out i h1
      have hap := bs_append (x.head ++ x.items i) (x.item i)
      have z1 := bs_size (x.head ++ x.items i)
      have z2 := bs_size (x.item i)
      have hlen : (x.head ++ x.items i).length + (x.item i).length ≤ 100000 := by
        have p1 := HIT.out i hin
        have p2 := HIL.out i h1
        have p3 := HHL.out
        rw [List.length_append]
        omega
      have y1 : ¬ 9223372036854775807 < (bs (x.head ++ x.items i)).size + (bs (x.item i)).size := by omega
      have HE : Hid (bs (x.head ++ x.items (i + 1)) = bs (x.head ++ x.items i) ++ bs (x.item i)) := by show _ = _; rw [hap, Nd.items, List.append_assoc]
      clear hap hlen z1 z2
      generalize bs (x.head ++ x.items i) = s1 at *
      generalize bs (x.item i) = s2 at *
      go_wp2_with (first
        | (go_at_call 36
           (with_reducible refine (HI.out _ K).mono ?_)
           rintro e v5 ⟨rfl, k5⟩))
      go_roundg (nk - (i + 1))
      case measure => rw [hg.out]; omega
      case rel => exact ⟨i + 1, by rw [HE.out], by go_num, rfl, by omega, X.kept k5, K.trans k5⟩
    · obtain rfl : nk = i := by omega
      have h1' : ¬ ((nk : Int) < (nk : Int)) := by omega
      go_wp2
      go_ret
      refine ⟨?_, K⟩
      unfold Nd.put
      rw [HKL.out]
      rfl

theorem refput_walk {w : World} {l : Bool} {kp : Option Addr} {nk kc : Nat} {vp : Option Addr} {nv vc : Nat} {ip : Option Addr} {ni ic : Nat} {x : Nd} (h : NV w l kp nk kc vp nv vc ip ni ic x) (g : Good x) :
    Calls Try.prog 12 #[.agg #[.bool l, .slice kp nk kc, .slice vp nv vc, .slice ip ni ic]] w fun e w' => e = .returned (.string (bs x.put)) ∧ Kept w w' := by
  cases l with
  | true => exact refput_true h g
  | false => exact refput_false h g
end Go.Proofs.Ytgcfollelefmcaa
