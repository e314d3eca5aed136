/- How many bytes a node's pieces take, where the middle is; the walks of Low and middle. Conditions: the node may be. -/
import Derived.Test.YtgcfollelefmcaaNT
namespace Go.Proofs.Ytgcfollelefmcaa
open Go.ChangeShapes Go.WideShapes Go.ChangeAt Go.RowKit

def Nd.sz (x : Nd) (i : Nat) : Nat := (x.item i).length
def Nd.tot (x : Nd) (i : Nat) : Nat := (x.items i).length
theorem Nd.tot_zero (x : Nd) : x.tot 0 = 0 := rfl
theorem Nd.tot_succ (x : Nd) (i : Nat) : x.tot (i + 1) = x.tot i + x.sz i := by
  unfold Nd.tot Nd.sz
  rw [Nd.items, List.length_append]
theorem Nd.tot_mono (x : Nd) {i j : Nat} (h : i ≤ j) : x.tot i ≤ x.tot j := by
  induction j with
  | zero => obtain rfl : i = 0 := by omega
            exact Nat.le_refl _
  | succ j ih =>
    by_cases e : i = j + 1
    · subst e; exact Nat.le_refl _
    · have := ih (by omega)
      rw [Nd.tot_succ]
      omega

/-- How many bytes the greater one of the parts takes. -/
def Nd.gr (x : Nd) (i : Nat) : Nat := max (x.tot i) (x.tot x.ks.length - x.tot (if x.leaf = true then i else i + 1))
theorem Nd.gr_leaf {x : Nd} (h : x.leaf = true) (i : Nat) : x.gr i = max (x.tot i) (x.tot x.ks.length - x.tot i) := by
  unfold Nd.gr; rw [if_pos h]
theorem Nd.gr_inner {x : Nd} (h : x.leaf = false) (i : Nat) : x.gr i = max (x.tot i) (x.tot x.ks.length - x.tot (i + 1)) := by
  unfold Nd.gr; rw [if_neg (by rw [h]; decide)]
theorem Nd.gr_le (x : Nd) {i : Nat} (h : i ≤ x.ks.length) : x.gr i ≤ x.tot x.ks.length := by
  have := x.tot_mono h
  unfold Nd.gr
  omega

/-- The first place from a on at which the greater part is least. -/
structure Mid (x : Nd) (a m : Nat) : Prop where
  lo : a ≤ m
  lt : m < x.ks.length
  before : ∀ j, a ≤ j → j < m → x.gr m < x.gr j
  after : ∀ j, m ≤ j → j < x.ks.length → x.gr m ≤ x.gr j

theorem Mid.one {x : Nd} {a m m' : Nat} (h : Mid x a m) (h' : Mid x a m') : m = m' := by
  by_cases h1 : m < m'
  · have a1 := h'.before m h.lo h1
    have a2 := h.after m' (by omega) h'.lt
    omega
  · by_cases h2 : m' < m
    · have a1 := h.before m' h'.lo h2
      have a2 := h'.after m (by omega) h.lt
      omega
    · omega

/-- While the places are gone through. -/
def Lst (x : Nd) (a i m : Nat) (l : Int) (most : Int) : Prop :=
  (i = a ∧ m = 0 ∧ l = most) ∨ (a ≤ m ∧ m < i ∧ l = ((x.gr m : Nat) : Int) ∧ (∀ j, a ≤ j → j < m → x.gr m < x.gr j) ∧ ∀ j, m ≤ j → j < i → x.gr m ≤ x.gr j)
theorem Lst.less {x : Nd} {a i m : Nat} {l most : Int} (h : Lst x a i m l most) (hi : a ≤ i) (hl : (l = most ∧ i = a) ∨ ((x.gr i : Nat) : Int) < l) : Lst x a (i + 1) i ((x.gr i : Nat) : Int) most := by
  refine .inr ⟨hi, by omega, rfl, ?_, ?_⟩
  · intro j h1 h2
    rcases h with ⟨e, _⟩ | ⟨p1, p2, p3, p4, p5⟩
    · omega
    · rcases hl with ⟨_, h3⟩ | hl
      · omega
      · by_cases e : j < m
        · have := p4 j h1 e; omega
        · have := p5 j (by omega) h2; omega
  · intro j h1 h2
    obtain rfl : i = j := by omega
    exact Nat.le_refl _
theorem Lst.more {x : Nd} {a i m : Nat} {l most : Int} (h : Lst x a i m l most) (hl : ¬ ((x.gr i : Nat) : Int) < l) (hm : ¬ (l = most ∧ i = a)) : Lst x a (i + 1) m l most := by
  rcases h with ⟨e, _, e2⟩ | ⟨p1, p2, p3, p4, p5⟩
  · exact absurd ⟨e2, e⟩ hm
  · refine .inr ⟨p1, by omega, p3, p4, ?_⟩
    intro j h1 h2
    by_cases e : j = i
    · subst e; omega
    · exact p5 j h1 (by omega)
theorem Lst.done {x : Nd} {a m : Nat} {l most : Int} (h : Lst x a x.ks.length m l most) (hn : a < x.ks.length) : Mid x a m := by
  rcases h with ⟨e, _⟩ | ⟨p1, p2, p3, p4, p5⟩
  · omega
  · exact ⟨p1, p2, p4, p5⟩

theorem tot_bound {x : Nd} (g : Good x) (i : Nat) (h : i ≤ x.ks.length) : x.tot i ≤ 11500 := by
  have a := items_length g i h
  have b := g.few
  unfold Nd.tot
  omega
theorem sz_eq (x : Nd) (i : Nat) : (bs (x.item i)).size = x.sz i := bs_size _

set_option maxHeartbeats 1000000 in
set_option maxRecDepth 100000 in
theorem low_walk {w : World} {l : Bool} {kp : Option Addr} {nk kc : Nat} {vp : Option Addr} {nv vc : Nat} {ip : Option Addr} {ni ic : Nat} {x : Nd} (h : NV w l kp nk kc vp nv vc ip ni ic x) (g : Good x) :
    Calls Try.prog 25 #[.agg #[.bool l, .slice kp nk kc, .slice vp nv vc, .slice ip ni ic]] w fun e w' => e = .returned (.bool (decide (x.put.length < 79))) ∧ Kept w w' := by
  have K0 : Kept w (w.alloc (.cells #[.bool l, .slice kp nk kc, .slice vp nv vc, .slice ip ni ic] 27)) := (Kept.refl w).alloc _
  have HP := put_walk (h.kept K0) g
  have hs := bs_size x.put
  have e1 : decide (((bs x.put).size : Int) < 79) = decide (x.put.length < 79) := by rw [hs]; exact decide_eq_decide.2 (by omega)
  rw [← e1]
  generalize bs x.put = s at *
  clear hs e1 h
  go_enter Try.func25, Try.ntmps25
  go_wp2_with (first
    | (go_at_call 9
       (with_reducible refine HP.mono ?_)
       rintro e v1 ⟨rfl, k1⟩))
  go_ret
  exact ⟨rfl, K0.trans k1⟩

set_option maxHeartbeats 2000000 in
set_option maxRecDepth 100000 in
theorem middle_true {w : World} {kp : Option Addr} {nk kc : Nat} {vp : Option Addr} {nv vc : Nat} {ip : Option Addr} {ni ic : Nat} {x : Nd} (h : NV w true kp nk kc vp nv vc ip ni ic x) (g : Good x) (hn : 0 < nk) :
    Calls Try.prog 51 #[.agg #[.bool true, .slice kp nk kc, .slice vp nv vc, .slice ip ni ic]] w fun e w' => ∃ m : Nat, e = .returned (.int .i64 (m : Nat)) ∧ Mid x 0 m ∧ Kept w w' := by
  have hf : nk ≤ 100 := by have := g.few; have := h.nk; omega
  have G : Hid (Good x) := g
  have HV : Hid (NV w true kp nk kc vp nv vc ip ni ic x) := h
  have HKL : Hid (x.ks.length = nk) := h.nk
  have HTB : Hid (∀ i, i ≤ nk → x.tot i ≤ 11500) := fun i hi => tot_bound g i (by have := h.nk; omega)
  have K0 : Kept w (w.alloc (.cells #[.bool true, .slice kp nk kc, .slice vp nv vc, .slice ip ni ic] 27)) := (Kept.refl w).alloc _
  have X0 := C4.alloc w 27 (.bool true) (.slice kp nk kc) (.slice vp nv vc) (.slice ip ni ic)
  clear h g
  go_enter Try.func51, Try.ntmps51
  go_wp2
  go_loopg [4, 14] nk (fun gg bv iv wx => ∃ i : Nat, bv = .int .i64 ((x.tot i : Nat) : Int) ∧ iv = .int .i64 (i : Nat) ∧ Hid (gg = nk - i) ∧ i ≤ nk ∧ C4 wx w.heap.size 27 (.bool true) (.slice kp nk kc) (.slice vp nv vc) (.slice ip ni ic) ∧ Kept w wx)
  case atStart => exact ⟨0, rfl, rfl, rfl, Nat.zero_le _, X0, K0⟩
  case round =>
    obtain ⟨i, rfl, rfl, hg, hin, X, K⟩ := hrel
    obtain ⟨b0, b1, b2, b3⟩ := X.cs
    clear X0 K0
    by_cases h1 : i < nk
    · have h1' : (i : Int) < (nk : Int) := by omega
      have HI : Hid (∀ W, Kept w W → Calls Try.prog 30 #[.agg #[.bool true, .slice kp nk kc, .slice vp nv vc, .slice ip ni ic], .int .i64 (i : Nat)] W fun e w' => e = .returned (.string (bs (x.item i))) ∧ Kept W w') := fun W hW => item_walk (HV.out.kept hW) G.out i h1
      have HE : Hid (x.tot (i + 1) = x.tot i + (bs (x.item i)).size) := by show _ = _; rw [sz_eq, Nd.tot_succ]
      have hle := HTB.out (i + 1) (by omega)
      rw [HE.out] at hle
      generalize x.tot i = a at *
      generalize bs (x.item i) = s at *
      have u1 : IntKind.i64.wrap ((a : Int) + (s.size : Int)) = (a : Int) + (s.size : Int) := by rw [IntKind.wrap_i64]; omega
      go_wp2_with (first
        | (go_at_call 30
           (with_reducible refine (HI.out _ K).mono ?_)
           rintro e v5 ⟨rfl, k5⟩))
      go_roundg (nk - (i + 1))
      case measure => rw [hg.out]; omega
      case rel => exact ⟨i + 1, by rw [HE.out]; go_num, by go_num, rfl, by omega, X.kept k5, K.trans k5⟩
    · obtain rfl : nk = i := by omega
      have h1' : ¬ ((nk : Int) < (nk : Int)) := by omega
      go_wp2
      go_loopg [3, 4, 6, 7, 27] nk (fun gg av bv mv lv iv wx => ∃ (i a b m : Nat) (l : Int), av = .int .i64 (a : Nat) ∧ bv = .int .i64 (b : Nat) ∧ mv = .int .i64 (m : Nat) ∧ lv = .int .i64 l ∧ iv = .int .i64 (i : Nat) ∧ Hid (gg = nk - i) ∧ i ≤ nk ∧ Hid (a = x.tot i ∧ a + b = x.tot nk) ∧ Hid (Lst x 0 i m l 9223372036854775807) ∧ C4 wx w.heap.size 27 (.bool true) (.slice kp nk kc) (.slice vp nv vc) (.slice ip ni ic) ∧ Kept w wx)
      case atStart => exact ⟨0, 0, x.tot nk, 0, 9223372036854775807, rfl, rfl, rfl, rfl, rfl, rfl, Nat.zero_le _, ⟨rfl, Nat.zero_add _⟩, .inl ⟨rfl, rfl, rfl⟩, X, K⟩
      case round =>
        obtain ⟨i, a, b, m, l, rfl, rfl, rfl, rfl, rfl, hg, hin, HAB, HL, X, K⟩ := hrel
        obtain ⟨b0, b1, b2, b3⟩ := X.cs
        by_cases h1 : i < nk
        · have h1' : (i : Int) < (nk : Int) := by omega
          have HI : Hid (∀ W, Kept w W → Calls Try.prog 30 #[.agg #[.bool true, .slice kp nk kc, .slice vp nv vc, .slice ip ni ic], .int .i64 (i : Nat)] W fun e w' => e = .returned (.string (bs (x.item i))) ∧ Kept W w') := fun W hW => item_walk (HV.out.kept hW) G.out i h1
          have HZ : Hid ((bs (x.item i)).size = x.sz i) := sz_eq x i
          have hle : a + b ≤ 11500 := by rw [HAB.out.2]; exact HTB.out nk (Nat.le_refl _)
          have hsb : (bs (x.item i)).size ≤ b := by
            have q := HAB.out
            have q2 := x.tot_mono (show i + 1 ≤ nk by omega)
            rw [Nd.tot_succ, ← HZ.out] at q2
            omega
          have HNX : Hid (a + (bs (x.item i)).size = x.tot (i + 1)) := by
            have q := HAB.out
            show _ = _
            rw [Nd.tot_succ, ← HZ.out]; omega
          generalize bs (x.item i) = s at *
          have HGR : Hid (((x.gr i : Nat) : Int) = max (a : Int) (b : Int)) := by
            show _ = _
            rw [Nd.gr_leaf HV.out.hl, HKL.out]
            
            have q := HAB.out
            omega

          have u1 : IntKind.i64.wrap ((a : Int) + (s.size : Int)) = (a : Int) + (s.size : Int) := by rw [IntKind.wrap_i64]; omega
          have u2 : IntKind.i64.wrap ((b : Int) - (s.size : Int)) = (b : Int) - (s.size : Int) := by rw [IntKind.wrap_i64]; omega
          by_cases hlt : max (a : Int) (b : Int) < l
          · go_wp2_with (first
              | (go_at_call 30
                 (with_reducible refine (HI.out _ K).mono ?_)
                 rintro e v5 ⟨rfl, k5⟩
                 have X5 := X.kept k5
                 obtain ⟨d0, d1, d2, d3⟩ := X5.cs))
            go_roundg (nk - (i + 1))
            case measure => rw [hg.out]; omega
            case rel => exact ⟨i + 1, a + s.size, b - s.size, i, max (a : Int) (b : Int), by go_num, by go_num, rfl, rfl, by go_num, rfl, by omega, ⟨HNX.out, by have := HAB.out; omega⟩, by rw [← HGR.out]; exact HL.out.less (Nat.zero_le _) (.inr (by rw [HGR.out]; exact hlt)), X5, K.trans k5⟩
          · go_wp2_with (first
              | (go_at_call 30
                 (with_reducible refine (HI.out _ K).mono ?_)
                 rintro e v5 ⟨rfl, k5⟩
                 have X5 := X.kept k5
                 obtain ⟨d0, d1, d2, d3⟩ := X5.cs))
            go_roundg (nk - (i + 1))
            case measure => rw [hg.out]; omega
            case rel => exact ⟨i + 1, a + s.size, b - s.size, m, l, by go_num, by go_num, rfl, rfl, by go_num, rfl, by omega, ⟨HNX.out, by have := HAB.out; omega⟩, HL.out.more (by rw [HGR.out]; exact Int.not_lt.2 hlt) (by rintro ⟨e1, _⟩; rw [e1] at hlt; omega), X5, K.trans k5⟩
        · obtain rfl : nk = i := by omega
          have h1' : ¬ ((nk : Int) < (nk : Int)) := by omega
          go_wp2
          go_ret
          exact ⟨m, rfl, by have q := HL.out; rw [← HKL.out] at q hn; exact q.done hn, K⟩

set_option maxHeartbeats 2000000 in
set_option maxRecDepth 100000 in
theorem middle_false {w : World} {kp : Option Addr} {nk kc : Nat} {vp : Option Addr} {nv vc : Nat} {ip : Option Addr} {ni ic : Nat} {x : Nd} (h : NV w false kp nk kc vp nv vc ip ni ic x) (g : Good x) (hn : 0 < nk) :
    Calls Try.prog 51 #[.agg #[.bool false, .slice kp nk kc, .slice vp nv vc, .slice ip ni ic]] w fun e w' => ∃ m : Nat, e = .returned (.int .i64 (m : Nat)) ∧ Mid x 0 m ∧ Kept w w' := by
  have hf : nk ≤ 100 := by have := g.few; have := h.nk; omega
  have G : Hid (Good x) := g
  have HV : Hid (NV w false kp nk kc vp nv vc ip ni ic x) := h
  have HKL : Hid (x.ks.length = nk) := h.nk
  have HTB : Hid (∀ i, i ≤ nk → x.tot i ≤ 11500) := fun i hi => tot_bound g i (by have := h.nk; omega)
  have K0 : Kept w (w.alloc (.cells #[.bool false, .slice kp nk kc, .slice vp nv vc, .slice ip ni ic] 27)) := (Kept.refl w).alloc _
  have X0 := C4.alloc w 27 (.bool false) (.slice kp nk kc) (.slice vp nv vc) (.slice ip ni ic)
  clear h g
  go_enter Try.func51, Try.ntmps51
  go_wp2
  go_loopg [4, 14] nk (fun gg bv iv wx => ∃ i : Nat, bv = .int .i64 ((x.tot i : Nat) : Int) ∧ iv = .int .i64 (i : Nat) ∧ Hid (gg = nk - i) ∧ i ≤ nk ∧ C4 wx w.heap.size 27 (.bool false) (.slice kp nk kc) (.slice vp nv vc) (.slice ip ni ic) ∧ Kept w wx)
  case atStart => exact ⟨0, rfl, rfl, rfl, Nat.zero_le _, X0, K0⟩
  case round =>
    obtain ⟨i, rfl, rfl, hg, hin, X, K⟩ := hrel
    obtain ⟨b0, b1, b2, b3⟩ := X.cs
    clear X0 K0
    by_cases h1 : i < nk
    · have h1' : (i : Int) < (nk : Int) := by omega
      have HI : Hid (∀ W, Kept w W → Calls Try.prog 30 #[.agg #[.bool false, .slice kp nk kc, .slice vp nv vc, .slice ip ni ic], .int .i64 (i : Nat)] W fun e w' => e = .returned (.string (bs (x.item i))) ∧ Kept W w') := fun W hW => item_walk (HV.out.kept hW) G.out i h1
      have HE : Hid (x.tot (i + 1) = x.tot i + (bs (x.item i)).size) := by show _ = _; rw [sz_eq, Nd.tot_succ]
      have hle := HTB.out (i + 1) (by omega)
      rw [HE.out] at hle
      generalize x.tot i = a at *
      generalize bs (x.item i) = s at *
      have u1 : IntKind.i64.wrap ((a : Int) + (s.size : Int)) = (a : Int) + (s.size : Int) := by rw [IntKind.wrap_i64]; omega
      go_wp2_with (first
        | (go_at_call 30
           (with_reducible refine (HI.out _ K).mono ?_)
           rintro e v5 ⟨rfl, k5⟩))
      go_roundg (nk - (i + 1))
      case measure => rw [hg.out]; omega
      case rel => exact ⟨i + 1, by rw [HE.out]; go_num, by go_num, rfl, by omega, X.kept k5, K.trans k5⟩
    · obtain rfl : nk = i := by omega
      have h1' : ¬ ((nk : Int) < (nk : Int)) := by omega
      go_wp2
      go_loopg [3, 4, 6, 7, 27] nk (fun gg av bv mv lv iv wx => ∃ (i a b m : Nat) (l : Int), av = .int .i64 (a : Nat) ∧ bv = .int .i64 (b : Nat) ∧ mv = .int .i64 (m : Nat) ∧ lv = .int .i64 l ∧ iv = .int .i64 (i : Nat) ∧ Hid (gg = nk - i) ∧ i ≤ nk ∧ Hid (a = x.tot i ∧ a + b = x.tot nk) ∧ Hid (Lst x 0 i m l 9223372036854775807) ∧ C4 wx w.heap.size 27 (.bool false) (.slice kp nk kc) (.slice vp nv vc) (.slice ip ni ic) ∧ Kept w wx)
      case atStart => exact ⟨0, 0, x.tot nk, 0, 9223372036854775807, rfl, rfl, rfl, rfl, rfl, rfl, Nat.zero_le _, ⟨rfl, Nat.zero_add _⟩, .inl ⟨rfl, rfl, rfl⟩, X, K⟩
      case round =>
        obtain ⟨i, a, b, m, l, rfl, rfl, rfl, rfl, rfl, hg, hin, HAB, HL, X, K⟩ := hrel
        obtain ⟨b0, b1, b2, b3⟩ := X.cs
        by_cases h1 : i < nk
        · have h1' : (i : Int) < (nk : Int) := by omega
          have HI : Hid (∀ W, Kept w W → Calls Try.prog 30 #[.agg #[.bool false, .slice kp nk kc, .slice vp nv vc, .slice ip ni ic], .int .i64 (i : Nat)] W fun e w' => e = .returned (.string (bs (x.item i))) ∧ Kept W w') := fun W hW => item_walk (HV.out.kept hW) G.out i h1
          have HZ : Hid ((bs (x.item i)).size = x.sz i) := sz_eq x i
          have hle : a + b ≤ 11500 := by rw [HAB.out.2]; exact HTB.out nk (Nat.le_refl _)
          have hsb : (bs (x.item i)).size ≤ b := by
            have q := HAB.out
            have q2 := x.tot_mono (show i + 1 ≤ nk by omega)
            rw [Nd.tot_succ, ← HZ.out] at q2
            omega
          have HNX : Hid (a + (bs (x.item i)).size = x.tot (i + 1)) := by
            have q := HAB.out
            show _ = _
            rw [Nd.tot_succ, ← HZ.out]; omega
          generalize bs (x.item i) = s at *
          have HGR : Hid (((x.gr i : Nat) : Int) = max (a : Int) ((b : Int) - (s.size : Int))) := by
            show _ = _
            rw [Nd.gr_inner HV.out.hl, HKL.out]
            rw [Nd.tot_succ, ← HZ.out]
            have q := HAB.out
            omega

          have u1 : IntKind.i64.wrap ((a : Int) + (s.size : Int)) = (a : Int) + (s.size : Int) := by rw [IntKind.wrap_i64]; omega
          have u2 : IntKind.i64.wrap ((b : Int) - (s.size : Int)) = (b : Int) - (s.size : Int) := by rw [IntKind.wrap_i64]; omega
          by_cases hlt : max (a : Int) ((b : Int) - (s.size : Int)) < l
          · go_wp2_with (first
              | (go_at_call 30
                 (with_reducible refine (HI.out _ K).mono ?_)
                 rintro e v5 ⟨rfl, k5⟩
                 have X5 := X.kept k5
                 obtain ⟨d0, d1, d2, d3⟩ := X5.cs))
            go_roundg (nk - (i + 1))
            case measure => rw [hg.out]; omega
            case rel => exact ⟨i + 1, a + s.size, b - s.size, i, max (a : Int) ((b : Int) - (s.size : Int)), by go_num, by go_num, rfl, rfl, by go_num, rfl, by omega, ⟨HNX.out, by have := HAB.out; omega⟩, by rw [← HGR.out]; exact HL.out.less (Nat.zero_le _) (.inr (by rw [HGR.out]; exact hlt)), X5, K.trans k5⟩
          · go_wp2_with (first
              | (go_at_call 30
                 (with_reducible refine (HI.out _ K).mono ?_)
                 rintro e v5 ⟨rfl, k5⟩
                 have X5 := X.kept k5
                 obtain ⟨d0, d1, d2, d3⟩ := X5.cs))
            go_roundg (nk - (i + 1))
            case measure => rw [hg.out]; omega
            case rel => exact ⟨i + 1, a + s.size, b - s.size, m, l, by go_num, by go_num, rfl, rfl, by go_num, rfl, by omega, ⟨HNX.out, by have := HAB.out; omega⟩, HL.out.more (by rw [HGR.out]; exact Int.not_lt.2 hlt) (by rintro ⟨e1, _⟩; rw [e1] at hlt; omega), X5, K.trans k5⟩
        · obtain rfl : nk = i := by omega
          have h1' : ¬ ((nk : Int) < (nk : Int)) := by omega
          go_wp2
          go_ret
          exact ⟨m, rfl, by have q := HL.out; rw [← HKL.out] at q hn; exact q.done hn, K⟩

theorem middle_walk {w : World} {l : Bool} {kp : Option Addr} {nk kc : Nat} {vp : Option Addr} {nv vc : Nat} {ip : Option Addr} {ni ic : Nat} {x : Nd} (h : NV w l kp nk kc vp nv vc ip ni ic x) (g : Good x) (hn : 0 < nk) :
    Calls Try.prog 51 #[.agg #[.bool l, .slice kp nk kc, .slice vp nv vc, .slice ip ni ic]] w fun e w' => ∃ m : Nat, e = .returned (.int .i64 (m : Nat)) ∧ Mid x 0 m ∧ Kept w w' := by
  cases l with
  | true => exact middle_true h g hn
  | false => exact middle_false h g hn
end Go.Proofs.Ytgcfollelefmcaa
