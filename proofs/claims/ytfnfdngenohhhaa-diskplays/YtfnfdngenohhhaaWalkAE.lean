/- The walk of the law on whatever is read, written and flushed. Conditions: cuts and acts are in memory that was there; each cut's fates take at most 2^47 bytes. -/
import Derived.Test.YtfnfdngenohhhaaWalkAD
import Derived.Deep.QuietTactic
import Derived.BigQuiet
namespace Go.Proofs.Ytfnfdngenohhhaa
open Go.ChangeShapes Go.WideShapes Go.ChangeAt Go.RowKit

/-- An act that came in. -/
structure Av where
  what : Int
  at_ : Int
  s : ByteArray

/-- Acts in memory that was there. -/
structure ActsAt (w : World) (v : Value) (L : List Av) : Prop where
  out : ∃ p c, v = .slice p L.length c ∧ ∀ j (h : j < L.length), ∃ b off, p = some ⟨b, off, none⟩ ∧ b < w.heap.size ∧ w.cell? ⟨b, off + j * 3, none⟩ = some (.int .i64 L[j].what) ∧ w.cell? ⟨b, off + j * 3 + 1, none⟩ = some (.int .i64 L[j].at_) ∧ w.cell? ⟨b, off + j * 3 + 2, none⟩ = some (.string L[j].s)

theorem CutsAt.take {B : Nat} {w : World} {p : Option Addr} {c : Nat} {l : List Ct} (h : CutsAt B w (.slice p l.length c) l) (m : Nat) : CutsAt B w (.slice p (l.take m).length c) (l.take m) := by
  obtain ⟨p', c', ev, h1, h2, hc⟩ := h.out
  injection ev with e1 _ e3
  subst e1 e3
  refine ⟨p, c, rfl, by rw [List.length_take]; omega, h2, fun j hj => ?_⟩
  have hj' : j < l.length := by rw [List.length_take] at hj; omega
  obtain ⟨b, off, vf, hp, hs, hx, hy, hf⟩ := hc j hj'
  rw [List.getElem_take]
  exact ⟨b, off, vf, hp, hs, hx, hy, hf⟩


theorem Ok.succ {m : Nat} {d : Dk} (h : Ok m d) : Ok (m + 1) d := ⟨h.secs, h.last, h.waits, Nat.le_succ_of_le h.acts, h.since, h.fails⟩
theorem row3 {W : World} {b : Nat} {c0 c1 c2 : Value} {t : TypeId} (h : W.heap[b]? = some (.cells #[c0, c1, c2] t)) : W.cell? ⟨b, 0, none⟩ = some c0 ∧ W.cell? ⟨b, 1, none⟩ = some c1 ∧ W.cell? ⟨b, 2, none⟩ = some c2 :=
  ⟨by rw [cell_of_row _ b 0 _ _ _ h]; rfl, by rw [cell_of_row _ b 1 _ _ _ h]; rfl, by rw [cell_of_row _ b 2 _ _ _ h]; rfl⟩
theorem PL.kept {w wx wy : World} {k b g c : Nat} (h : PL w k b g c wx) (q : Kept wx wy) : PL w k b g c wy := by
  obtain ⟨d, r, h1, h2, h3, h4, h5⟩ := h.out
  exact ⟨⟨d, r, q.dk h1, h2.kept q h.k.size, h3, h4, h5⟩, h.k.trans q, h.hc⟩

set_option maxHeartbeats 2000000 in
set_option maxRecDepth 100000 in
theorem plays_walk (a0 : Int) (p : Option Addr) (cc : Nat) (l : List Ct) (va : Value) (L : List Av) (w : World) (hcut : CutsAt w.heap.size w (.slice p l.length cc) l) (hfl : ∀ c ∈ l, c.fates.length * 8 ≤ 140737488355328) (hact : ActsAt w va L) :
    Calls Try.prog 3 #[.int .i64 a0, .slice p l.length cc, va] w fun e w' => e = .returned (.bool true) ∧ Kept w w' := by
  obtain ⟨n, hn, en⟩ := low 4 15 (by omega) (by decide) a0
  have en' : bits .and .i64 a0 15 = (n : Int) := en
  have hn16 : n < 16 := hn
  clear en hn
  obtain ⟨pa, ca, rfl, hav⟩ := hact.out
  obtain ⟨l5, hl5⟩ : ∃ l5, l.take 5 = l5 := ⟨_, rfl⟩
  have hc5 := hcut.take 5
  rw [hl5] at hc5
  have hm : (min (l.length : Int) 5).toNat = l5.length := by rw [← hl5, List.length_take]; omega
  have hl55 : l5.length ≤ 5 := by rw [← hl5, List.length_take]; omega
  obtain ⟨p', c', ev, hcc, hcm, _⟩ := hcut.out
  injection ev with e1 _ e3
  subst e1 e3
  have m1 : (0 : Int) ≤ min (l.length : Int) 5 := by omega
  have m2 : min (l.length : Int) 5 ≤ (cc : Int) := by omega
  have hnew := new_walk (w := w) n (by omega) hc5 (Nat.le_refl _) hl55 (by intro c hc; rw [← hl5] at hc; exact hfl c (List.mem_of_mem_take hc))
  obtain ⟨D0, hD0⟩ : ∃ D, Dk.new n l5 = D := ⟨_, rfl⟩
  obtain ⟨q0, hq0⟩ : ∃ q, R.new n l5 = q := ⟨_, rfl⟩
  have hsim0 : Sim 0 D0 q0 := by rw [← hD0, ← hq0]; exact new_sim n l5
  have hok0 : Ok 0 D0 := by rw [← hD0]; exact new_ok _ _
  have hsec : D0.secs.length = n := by rw [← hD0]; simp [Dk.new]
  have hqs : q0.S.length ≤ 1000 := by rw [← hq0]; simp [R.new]; omega
  rw [hD0] at hnew
  have HC5 : Hid (CutsAt w.heap.size w (.slice p l5.length cc) l5) := hc5
  have HSIM : Hid (Sim 0 D0 q0 ∧ Ok 0 D0 ∧ q0.S.length ≤ 1000 ∧ D0.secs.length = n ∧ R.new n l5 = q0) := ⟨hsim0, hok0, hqs, hsec, hq0⟩
  have HAV : Hid (∀ j (h : j < L.length), ∃ b off, pa = some ⟨b, off, none⟩ ∧ b < w.heap.size ∧ w.cell? ⟨b, off + j * 3, none⟩ = some (.int .i64 L[j].what) ∧ w.cell? ⟨b, off + j * 3 + 1, none⟩ = some (.int .i64 L[j].at_) ∧ w.cell? ⟨b, off + j * 3 + 2, none⟩ = some (.string L[j].s)) := hav
  clear hc5 hsim0 hok0 hsec hqs hq0 hD0 hav hact hcut hfl hl5 hcm
  go_enter Try.func3, Try.ntmps3
  go_wp2_with (first
    | (go_at_call 6; (with_reducible refine hnew.mono ?_); rintro e w1 ⟨b, g, rfl, hD1, hk1⟩)
    | (go_at_call 8; (with_reducible refine (rcuts_walk (HC5.out.on (hk1.on (Nat.le_refl _))) hk1.size hl55).mono ?_); rintro e w2 ⟨v2, rfl, hC2, hk2⟩; obtain ⟨p2, c2, rfl, _⟩ := hC2.out)
    | (go_at_call 7; (with_reducible refine (rnew_walk n (by omega) hC2 (Nat.le_trans hk1.size hk2.size)).mono ?_); rw [HSIM.out.2.2.2.2]; rintro e w3 ⟨v3, rfl, hR3, hk3⟩; obtain ⟨aS, aT, aW, aC, rfl, hr3⟩ := hR3.out; obtain ⟨pS, cS, pT, cT, pW, cW, pC, cC, rfl, rfl, rfl, rfl⟩ := hr3.slices; unfold R.cells; have hkA := (hk3.alloc (.cells #[.slice pS q0.S.length cS, .slice pT q0.torn.length cT, .slice pW q0.wait.length cW, .slice pC q0.cuts.length cC, .int .i64 (q0.acts : Nat), .int .i64 (q0.all : Nat), .int .i64 (q0.fails : Nat), .bool q0.dead] 33)))
    | (go_at_call 9; (with_reducible refine (awake_walk _).mono ?_); rintro e w4 ⟨rfl, hk4⟩; have hD4 := hk4.dk (hkA.dk (hk2.dk hD1)); have hsw := sectors_walk hD4; rw [HSIM.out.2.2.2.1] at hsw)
    | (go_at_call 10; (with_reducible refine hsw.mono ?_); rintro e w5 ⟨rfl, hw⟩; rw [hw]; clear hw))
  have P0 : PL w 0 b g w3.heap.size w4 := by
    refine ⟨⟨D0, q0, hD4, ?_, HSIM.out.1, HSIM.out.2.1, HSIM.out.2.2.1⟩, (hk1.trans (hk2.trans hkA)).trans hk4, Nat.le_trans hk1.size (Nat.le_trans hk2.size hk3.size)⟩
    refine QB.kept ⟨_, _, _, _, heap_alloc_new w3 _, hr3.og (((Kept.refl w3).alloc _).og (Nat.le_trans hk1.size (Nat.le_trans hk2.size hk3.size)))⟩ hk4 (Nat.le_trans (Nat.le_trans hk1.size hk2.size) hkA.size)
  have HP0 : Hid (PL w 0 b g w3.heap.size w4) := P0
  clear P0 hD4 hkA hr3 hk3 hk2 hk1 hk4 hD1 hR3 hC2 hsw
  generalize w3.heap.size = c at *
  go_loopg [12] (min L.length 60) (fun r iv wx => ∃ k, k + r = min L.length 60 ∧ iv = .int .i64 (k : Nat) ∧ PL w k b g c wx)
  case atStart => exact ⟨0, by omega, rfl, HP0.out⟩
  case round =>
    clear HP0 HSIM HC5 hnew
    obtain ⟨k, hk, rfl, hP⟩ := hrel
    cases gk with
    | zero =>
      have KP : Hid (Kept w wr) := hP.k
      clear hP
      by_cases hkl : k < L.length
      · have hk60 : ¬ k < 60 := by omega
        go_wp2
        go_ret
        exact ⟨rfl, KP.out⟩
      · go_wp2
        go_ret
        exact ⟨rfl, KP.out⟩
    | succ r =>
      have hkl : k < L.length := by omega
      have hk60 : k < 60 := by omega
      have HK : Hid (k + (r + 1) = min L.length 60) := hk
      obtain ⟨d, q, hD, hQ, hS, hO, hq⟩ := hP.out
      have HROK : Hid (Rok q ∧ q.wait.length ≤ 900) := rok_of hS hO (by omega) hq
      have HC : Hid (w.heap.size ≤ c) := hP.hc
      obtain ⟨ba, oa, rfl, hba, x0, x1, x2⟩ := HAV.out k hkl
      obtain ⟨X, hX⟩ : ∃ X, L[k] = X := ⟨_, rfl⟩
      rw [hX] at x0 x1 x2
      have y0 := (hP.k.out.cell (p := ⟨ba, oa + k * 3, none⟩) hba).trans x0
      have y1 := (hP.k.out.cell (p := ⟨ba, oa + k * 3 + 1, none⟩) hba).trans x1
      have y2 := (hP.k.out.cell (p := ⟨ba, oa + k * 3 + 2, none⟩) hba).trans x2
      have i1 : (0 : Int) ≤ (k : Int) := by omega
      have i2 : (k : Int) < (L.length : Int) := by omega
      have KA : Kept w (wr.alloc (.cells #[.int .i64 X.what, .int .i64 X.at_, .string X.s] 39)) := hP.k.alloc _
      have hDA := ((Kept.refl wr).alloc (.cells #[.int .i64 X.what, .int .i64 X.at_, .string X.s] 39)).dk hD
      have hQA := hQ.kept ((Kept.refl wr).alloc (.cells #[.int .i64 X.what, .int .i64 X.at_, .string X.s] 39)) hP.k.size
      have hA : (wr.alloc (.cells #[.int .i64 X.what, .int .i64 X.at_, .string X.s] 39)).heap[wr.heap.size]? = some (.cells #[.int .i64 X.what, .int .i64 X.at_, .string X.s] 39) := heap_alloc_new wr _
      obtain ⟨t, ht, ew⟩ := low 2 3 (by omega) (by decide) X.what
      have ew : bits .and .i64 X.what 3 = (t : Int) := ew
      have ht4 : t < 4 := ht
      clear ht hk hD hQ hP x0 x1 x2 hX hba
      have h4 : t = 0 ∨ t = 1 ∨ t = 2 ∨ t = 3 := by omega
      clear ht4
      rcases h4 with rfl | rfl | rfl | rfl
      · have hsim := read_sim hS hO X.at_
        have hprog := read_walk hDA KA.size hO (by omega) X.at_
        rw [← hsim.1] at hprog
        obtain ⟨d2, hd2⟩ : ∃ d2, (d.read X.at_).1 = d2 := ⟨_, rfl⟩
        obtain ⟨q2, hq2⟩ : ∃ q2, (q.read X.at_).1 = q2 := ⟨_, rfl⟩
        obtain ⟨te, hte⟩ : ∃ te, (q.read X.at_).2 = te := ⟨_, rfl⟩
        rw [hd2, hte] at hprog
        rw [hd2, hq2] at hsim
        go_wp2_with (first
          | (go_at_call 11; (with_reducible refine hprog.mono ?_); rintro e w1 ⟨rfl, hD1, o1⟩; have hQ1 := hQA.on o1; have hA1 := o1.rows _ _ 39 _ hA calm39; obtain ⟨s0, s1, s2⟩ := row3 hA1; obtain ⟨pS1, cS1, pT1, cT1, pW1, cW1, pC1, cC1, m1, rv1⟩ := hQ1.facts; obtain ⟨e0, e1, e2, e3, e4, e5, e6, e7⟩ := cells8 m1; have K1 := KA.onto o1; have hrr := rread_walk rv1 K1.size HROK.out.1 X.at_; rw [hq2, hte] at hrr)
          | (go_at_call 12; (with_reducible refine hrr.mono ?_); rintro e w2 ⟨v2, rfl, hv2, k2⟩; obtain ⟨a1, a2, a3, a4, rfl, hr2⟩ := hv2.out; obtain ⟨pS2, cS2, pT2, cT2, pW2, cW2, pC2, cC2, rfl, rfl, rfl, rfl⟩ := hr2.slices; unfold R.cells; have m2 := (k2.alloc (.cells #[.slice pS2 q2.S.length cS2, .slice pT2 q2.torn.length cT2, .slice pW2 q2.wait.length cW2, .slice pC2 q2.cuts.length cC2, .int .i64 (q2.acts : Nat), .int .i64 (q2.all : Nat), .int .i64 (q2.fails : Nat), .bool q2.dead] 33)).block m1; obtain ⟨g0, g1, g2, g3, g4, g5, g6, g7⟩ := cells8 m2; obtain ⟨f0, f1, f2, f3, f4, f5, f6, f7⟩ := frozen8 m2; have K2 := K1.trans (k2.alloc (.cells #[.slice pS2 q2.S.length cS2, .slice pT2 q2.torn.length cT2, .slice pW2 q2.wait.length cW2, .slice pC2 q2.cuts.length cC2, .int .i64 (q2.acts : Nat), .int .i64 (q2.all : Nat), .int .i64 (q2.fails : Nat), .bool q2.dead] 33)); have hst := QB.store (q2 := q2) (hQ1.kept (k2.alloc (.cells #[.slice pS2 q2.S.length cS2, .slice pT2 q2.torn.length cT2, .slice pW2 q2.wait.length cW2, .slice pC2 q2.cuts.length cC2, .int .i64 (q2.acts : Nat), .int .i64 (q2.all : Nat), .int .i64 (q2.fails : Nat), .bool q2.dead] 33)) K1.size) HC.out (hr2.og (((Kept.refl w2).alloc _).og (Nat.le_trans K1.size k2.size))); have hQT := hst.1; have hDT := hst.2 ((k2.alloc (.cells #[.slice pS2 q2.S.length cS2, .slice pT2 q2.torn.length cT2, .slice pW2 q2.wait.length cW2, .slice pC2 q2.cuts.length cC2, .int .i64 (q2.acts : Nat), .int .i64 (q2.all : Nat), .int .i64 (q2.fails : Nat), .bool q2.dead] 33)).dk hD1); have KT := eight_kept K2 HC.out (.slice pS2 q2.S.length cS2) (.slice pT2 q2.torn.length cT2) (.slice pW2 q2.wait.length cW2) (.slice pC2 q2.cuts.length cC2) (.int .i64 (q2.acts : Nat)) (.int .i64 (q2.all : Nat)) (.int .i64 (q2.fails : Nat)) (.bool q2.dead); have HT : Hid (_ ∧ _ ∧ _) := ⟨hQT, hDT, KT⟩; clear hst hQT hDT KT))
        obtain ⟨hQT, hDT, KT⟩ := HT.out
        clear HT
        generalize (((((((((w2.alloc (.cells #[.slice pS2 q2.S.length cS2, .slice pT2 q2.torn.length cT2, .slice pW2 q2.wait.length cW2, .slice pC2 q2.cuts.length cC2, .int .i64 (q2.acts : Nat), .int .i64 (q2.all : Nat), .int .i64 (q2.fails : Nat), .bool q2.dead] 33)).setCell ⟨c, 0, none⟩ (.slice pS2 q2.S.length cS2)).setCell ⟨c, 1, none⟩ (.slice pT2 q2.torn.length cT2)).setCell ⟨c, 2, none⟩ (.slice pW2 q2.wait.length cW2)).setCell ⟨c, 3, none⟩ (.slice pC2 q2.cuts.length cC2)).setCell ⟨c, 4, none⟩ (.int .i64 (q2.acts : Nat))).setCell ⟨c, 5, none⟩ (.int .i64 (q2.all : Nat))).setCell ⟨c, 6, none⟩ (.int .i64 (q2.fails : Nat))).setCell ⟨c, 7, none⟩ (.bool q2.dead)) = WT at *
        have hS2 := hsim.2
        have h19 : ∀ j, Calls Try.prog 19 #[.pointer (some ⟨b, 0, none⟩)] (WT.drewN j) fun e w' => e = .returned (.bool d2.dead) ∧ w' = WT.drewN j := fun j => dead_walk (((Kept.refl WT).drewN j).dk hDT)
        have h20 : ∀ j, Calls Try.prog 20 #[.pointer (some ⟨b, 0, none⟩)] (WT.drewN j) fun e w' => e = .returned (.int .i64 (d2.acts : Nat)) ∧ w' = WT.drewN j := fun j => acts_walk (((Kept.refl WT).drewN j).dk hDT)
        have h21 : ∀ j, Calls Try.prog 21 #[.pointer (some ⟨b, 0, none⟩)] (WT.drewN j) fun e w' => e = .returned (.int .i64 (d2.fails : Nat)) ∧ w' = WT.drewN j := fun j => fails_walk (((Kept.refl WT).drewN j).dk hDT)
        obtain ⟨_, _, _, _, _, _, _, _, mT, _⟩ := hQT.facts
        obtain ⟨_, _, _, _, _, t5, t6, t7⟩ := cells8 mT
        rw [hS2.all] at t5
        rw [hS2.fails] at t6
        rw [hS2.dead] at t7
        have HP : Hid (PL w (k + 1) b g c WT) := ⟨⟨d2, q2, hDT, hQT, hS2, by rw [← hd2]; exact read_okk hO X.at_, by rw [← hq2, rread_len]; exact hq⟩, KT, HC.out⟩
        clear hQT hDT KT hS2 mT
        go_quiet (first
          | (go_at_call 19; exact Calls.quiet_of_same (h19 _))
          | (go_at_call 20; exact Calls.quiet_of_same (h20 _))
          | (go_at_call 21; exact Calls.quiet_of_same (h21 _)))
        go_wp2
        go_roundg r
        case measure => omega
        case rel => exact ⟨k + 1, by have := HK.out; omega, by go_num, HP.out.kept ((Kept.refl _).drewN _)⟩
      · obtain ⟨T, hT⟩ : ∃ T, X.s.extract 0 (min (X.s.size : Int) 300).toNat = T := ⟨_, rfl⟩
        have hsim := write_sim hS hO X.at_ T
        have hprog := write_walk hDA KA.size hO (by omega) X.at_ T
        rw [← hsim.1] at hprog
        obtain ⟨d2, hd2⟩ : ∃ d2, (d.write X.at_ T).1 = d2 := ⟨_, rfl⟩
        obtain ⟨q2, hq2⟩ : ∃ q2, (q.write X.at_ T).1 = q2 := ⟨_, rfl⟩
        obtain ⟨te, hte⟩ : ∃ te, (q.write X.at_ T).2 = te := ⟨_, rfl⟩
        rw [hd2, hte] at hprog
        rw [hd2, hq2] at hsim
        go_wp2_with (first
          | (go_at_call 13; (with_reducible refine hprog.mono ?_); rintro e w1 ⟨rfl, hD1, o1⟩; have hQ1 := hQA.on o1; have hA1 := o1.rows _ _ 39 _ hA calm39; obtain ⟨s0, s1, s2⟩ := row3 hA1; obtain ⟨pS1, cS1, pT1, cT1, pW1, cW1, pC1, cC1, m1, rv1⟩ := hQ1.facts; obtain ⟨e0, e1, e2, e3, e4, e5, e6, e7⟩ := cells8 m1; have K1 := KA.onto o1; have hrr := rwrite_walk rv1 K1.size HROK.out.1 HROK.out.2 X.at_ T; rw [hq2, hte] at hrr)
          | (go_at_call 14; (with_reducible refine hrr.mono ?_); rintro e w2 ⟨v2, rfl, hv2, k2⟩; obtain ⟨a1, a2, a3, a4, rfl, hr2⟩ := hv2.out; obtain ⟨pS2, cS2, pT2, cT2, pW2, cW2, pC2, cC2, rfl, rfl, rfl, rfl⟩ := hr2.slices; unfold R.cells; have m2 := (k2.alloc (.cells #[.slice pS2 q2.S.length cS2, .slice pT2 q2.torn.length cT2, .slice pW2 q2.wait.length cW2, .slice pC2 q2.cuts.length cC2, .int .i64 (q2.acts : Nat), .int .i64 (q2.all : Nat), .int .i64 (q2.fails : Nat), .bool q2.dead] 33)).block m1; obtain ⟨g0, g1, g2, g3, g4, g5, g6, g7⟩ := cells8 m2; obtain ⟨f0, f1, f2, f3, f4, f5, f6, f7⟩ := frozen8 m2; have K2 := K1.trans (k2.alloc (.cells #[.slice pS2 q2.S.length cS2, .slice pT2 q2.torn.length cT2, .slice pW2 q2.wait.length cW2, .slice pC2 q2.cuts.length cC2, .int .i64 (q2.acts : Nat), .int .i64 (q2.all : Nat), .int .i64 (q2.fails : Nat), .bool q2.dead] 33)); have hst := QB.store (q2 := q2) (hQ1.kept (k2.alloc (.cells #[.slice pS2 q2.S.length cS2, .slice pT2 q2.torn.length cT2, .slice pW2 q2.wait.length cW2, .slice pC2 q2.cuts.length cC2, .int .i64 (q2.acts : Nat), .int .i64 (q2.all : Nat), .int .i64 (q2.fails : Nat), .bool q2.dead] 33)) K1.size) HC.out (hr2.og (((Kept.refl w2).alloc _).og (Nat.le_trans K1.size k2.size))); have hQT := hst.1; have hDT := hst.2 ((k2.alloc (.cells #[.slice pS2 q2.S.length cS2, .slice pT2 q2.torn.length cT2, .slice pW2 q2.wait.length cW2, .slice pC2 q2.cuts.length cC2, .int .i64 (q2.acts : Nat), .int .i64 (q2.all : Nat), .int .i64 (q2.fails : Nat), .bool q2.dead] 33)).dk hD1); have KT := eight_kept K2 HC.out (.slice pS2 q2.S.length cS2) (.slice pT2 q2.torn.length cT2) (.slice pW2 q2.wait.length cW2) (.slice pC2 q2.cuts.length cC2) (.int .i64 (q2.acts : Nat)) (.int .i64 (q2.all : Nat)) (.int .i64 (q2.fails : Nat)) (.bool q2.dead); have HT : Hid (_ ∧ _ ∧ _) := ⟨hQT, hDT, KT⟩; clear hst hQT hDT KT))
        obtain ⟨hQT, hDT, KT⟩ := HT.out
        clear HT
        generalize (((((((((w2.alloc (.cells #[.slice pS2 q2.S.length cS2, .slice pT2 q2.torn.length cT2, .slice pW2 q2.wait.length cW2, .slice pC2 q2.cuts.length cC2, .int .i64 (q2.acts : Nat), .int .i64 (q2.all : Nat), .int .i64 (q2.fails : Nat), .bool q2.dead] 33)).setCell ⟨c, 0, none⟩ (.slice pS2 q2.S.length cS2)).setCell ⟨c, 1, none⟩ (.slice pT2 q2.torn.length cT2)).setCell ⟨c, 2, none⟩ (.slice pW2 q2.wait.length cW2)).setCell ⟨c, 3, none⟩ (.slice pC2 q2.cuts.length cC2)).setCell ⟨c, 4, none⟩ (.int .i64 (q2.acts : Nat))).setCell ⟨c, 5, none⟩ (.int .i64 (q2.all : Nat))).setCell ⟨c, 6, none⟩ (.int .i64 (q2.fails : Nat))).setCell ⟨c, 7, none⟩ (.bool q2.dead)) = WT at *
        have hS2 := hsim.2
        have h19 : ∀ j, Calls Try.prog 19 #[.pointer (some ⟨b, 0, none⟩)] (WT.drewN j) fun e w' => e = .returned (.bool d2.dead) ∧ w' = WT.drewN j := fun j => dead_walk (((Kept.refl WT).drewN j).dk hDT)
        have h20 : ∀ j, Calls Try.prog 20 #[.pointer (some ⟨b, 0, none⟩)] (WT.drewN j) fun e w' => e = .returned (.int .i64 (d2.acts : Nat)) ∧ w' = WT.drewN j := fun j => acts_walk (((Kept.refl WT).drewN j).dk hDT)
        have h21 : ∀ j, Calls Try.prog 21 #[.pointer (some ⟨b, 0, none⟩)] (WT.drewN j) fun e w' => e = .returned (.int .i64 (d2.fails : Nat)) ∧ w' = WT.drewN j := fun j => fails_walk (((Kept.refl WT).drewN j).dk hDT)
        obtain ⟨_, _, _, _, _, _, _, _, mT, _⟩ := hQT.facts
        obtain ⟨_, _, _, _, _, t5, t6, t7⟩ := cells8 mT
        rw [hS2.all] at t5
        rw [hS2.fails] at t6
        rw [hS2.dead] at t7
        have HP : Hid (PL w (k + 1) b g c WT) := ⟨⟨d2, q2, hDT, hQT, hS2, by rw [← hd2]; exact write_okk hO X.at_ T, by rw [← hq2, rwrite_len]; exact hq⟩, KT, HC.out⟩
        clear hQT hDT KT hS2 mT
        go_quiet (first
          | (go_at_call 19; exact Calls.quiet_of_same (h19 _))
          | (go_at_call 20; exact Calls.quiet_of_same (h20 _))
          | (go_at_call 21; exact Calls.quiet_of_same (h21 _)))
        go_wp2
        go_roundg r
        case measure => omega
        case rel => exact ⟨k + 1, by have := HK.out; omega, by go_num, HP.out.kept ((Kept.refl _).drewN _)⟩
      · have hsim := flush_sim hS hO
        have hprog := flush_walk hDA KA.size hO (by omega)
        rw [← hsim.1] at hprog
        obtain ⟨d2, hd2⟩ : ∃ d2, d.flush.1 = d2 := ⟨_, rfl⟩
        obtain ⟨q2, hq2⟩ : ∃ q2, q.flush.1 = q2 := ⟨_, rfl⟩
        obtain ⟨te, hte⟩ : ∃ te, q.flush.2 = te := ⟨_, rfl⟩
        rw [hd2, hte] at hprog
        rw [hd2, hq2] at hsim
        go_wp2_with (first
          | (go_at_call 15; (with_reducible refine hprog.mono ?_); rintro e w1 ⟨rfl, hD1, o1⟩; have hQ1 := hQA.on o1; have hA1 := o1.rows _ _ 39 _ hA calm39; obtain ⟨s0, s1, s2⟩ := row3 hA1; obtain ⟨pS1, cS1, pT1, cT1, pW1, cW1, pC1, cC1, m1, rv1⟩ := hQ1.facts; obtain ⟨e0, e1, e2, e3, e4, e5, e6, e7⟩ := cells8 m1; have K1 := KA.onto o1; have hrr := rflush_walk rv1 K1.size HROK.out.1; rw [hq2, hte] at hrr)
          | (go_at_call 16; (with_reducible refine hrr.mono ?_); rintro e w2 ⟨v2, rfl, hv2, k2⟩; obtain ⟨a1, a2, a3, a4, rfl, hr2⟩ := hv2.out; obtain ⟨pS2, cS2, pT2, cT2, pW2, cW2, pC2, cC2, rfl, rfl, rfl, rfl⟩ := hr2.slices; unfold R.cells; have m2 := (k2.alloc (.cells #[.slice pS2 q2.S.length cS2, .slice pT2 q2.torn.length cT2, .slice pW2 q2.wait.length cW2, .slice pC2 q2.cuts.length cC2, .int .i64 (q2.acts : Nat), .int .i64 (q2.all : Nat), .int .i64 (q2.fails : Nat), .bool q2.dead] 33)).block m1; obtain ⟨g0, g1, g2, g3, g4, g5, g6, g7⟩ := cells8 m2; obtain ⟨f0, f1, f2, f3, f4, f5, f6, f7⟩ := frozen8 m2; have K2 := K1.trans (k2.alloc (.cells #[.slice pS2 q2.S.length cS2, .slice pT2 q2.torn.length cT2, .slice pW2 q2.wait.length cW2, .slice pC2 q2.cuts.length cC2, .int .i64 (q2.acts : Nat), .int .i64 (q2.all : Nat), .int .i64 (q2.fails : Nat), .bool q2.dead] 33)); have hst := QB.store (q2 := q2) (hQ1.kept (k2.alloc (.cells #[.slice pS2 q2.S.length cS2, .slice pT2 q2.torn.length cT2, .slice pW2 q2.wait.length cW2, .slice pC2 q2.cuts.length cC2, .int .i64 (q2.acts : Nat), .int .i64 (q2.all : Nat), .int .i64 (q2.fails : Nat), .bool q2.dead] 33)) K1.size) HC.out (hr2.og (((Kept.refl w2).alloc _).og (Nat.le_trans K1.size k2.size))); have hQT := hst.1; have hDT := hst.2 ((k2.alloc (.cells #[.slice pS2 q2.S.length cS2, .slice pT2 q2.torn.length cT2, .slice pW2 q2.wait.length cW2, .slice pC2 q2.cuts.length cC2, .int .i64 (q2.acts : Nat), .int .i64 (q2.all : Nat), .int .i64 (q2.fails : Nat), .bool q2.dead] 33)).dk hD1); have KT := eight_kept K2 HC.out (.slice pS2 q2.S.length cS2) (.slice pT2 q2.torn.length cT2) (.slice pW2 q2.wait.length cW2) (.slice pC2 q2.cuts.length cC2) (.int .i64 (q2.acts : Nat)) (.int .i64 (q2.all : Nat)) (.int .i64 (q2.fails : Nat)) (.bool q2.dead); have HT : Hid (_ ∧ _ ∧ _) := ⟨hQT, hDT, KT⟩; clear hst hQT hDT KT))
        obtain ⟨hQT, hDT, KT⟩ := HT.out
        clear HT
        generalize (((((((((w2.alloc (.cells #[.slice pS2 q2.S.length cS2, .slice pT2 q2.torn.length cT2, .slice pW2 q2.wait.length cW2, .slice pC2 q2.cuts.length cC2, .int .i64 (q2.acts : Nat), .int .i64 (q2.all : Nat), .int .i64 (q2.fails : Nat), .bool q2.dead] 33)).setCell ⟨c, 0, none⟩ (.slice pS2 q2.S.length cS2)).setCell ⟨c, 1, none⟩ (.slice pT2 q2.torn.length cT2)).setCell ⟨c, 2, none⟩ (.slice pW2 q2.wait.length cW2)).setCell ⟨c, 3, none⟩ (.slice pC2 q2.cuts.length cC2)).setCell ⟨c, 4, none⟩ (.int .i64 (q2.acts : Nat))).setCell ⟨c, 5, none⟩ (.int .i64 (q2.all : Nat))).setCell ⟨c, 6, none⟩ (.int .i64 (q2.fails : Nat))).setCell ⟨c, 7, none⟩ (.bool q2.dead)) = WT at *
        have hS2 := hsim.2
        have h19 : ∀ j, Calls Try.prog 19 #[.pointer (some ⟨b, 0, none⟩)] (WT.drewN j) fun e w' => e = .returned (.bool d2.dead) ∧ w' = WT.drewN j := fun j => dead_walk (((Kept.refl WT).drewN j).dk hDT)
        have h20 : ∀ j, Calls Try.prog 20 #[.pointer (some ⟨b, 0, none⟩)] (WT.drewN j) fun e w' => e = .returned (.int .i64 (d2.acts : Nat)) ∧ w' = WT.drewN j := fun j => acts_walk (((Kept.refl WT).drewN j).dk hDT)
        have h21 : ∀ j, Calls Try.prog 21 #[.pointer (some ⟨b, 0, none⟩)] (WT.drewN j) fun e w' => e = .returned (.int .i64 (d2.fails : Nat)) ∧ w' = WT.drewN j := fun j => fails_walk (((Kept.refl WT).drewN j).dk hDT)
        obtain ⟨_, _, _, _, _, _, _, _, mT, _⟩ := hQT.facts
        obtain ⟨_, _, _, _, _, t5, t6, t7⟩ := cells8 mT
        rw [hS2.all] at t5
        rw [hS2.fails] at t6
        rw [hS2.dead] at t7
        have HP : Hid (PL w (k + 1) b g c WT) := ⟨⟨d2, q2, hDT, hQT, hS2, by rw [← hd2]; exact flush_okk hO, by rw [← hq2, rflush_len]; exact hq⟩, KT, HC.out⟩
        clear hQT hDT KT hS2 mT
        go_quiet (first
          | (go_at_call 19; exact Calls.quiet_of_same (h19 _))
          | (go_at_call 20; exact Calls.quiet_of_same (h20 _))
          | (go_at_call 21; exact Calls.quiet_of_same (h21 _)))
        go_wp2
        go_roundg r
        case measure => omega
        case rel => exact ⟨k + 1, by have := HK.out; omega, by go_num, HP.out.kept ((Kept.refl _).drewN _)⟩
      · have hsim : True ∧ Sim 0 d.up q.up := ⟨trivial, up_sim hS⟩
        have hprog := up_walk hDA
        obtain ⟨d2, hd2⟩ : ∃ d2, d.up = d2 := ⟨_, rfl⟩
        obtain ⟨q2, hq2⟩ : ∃ q2, q.up = q2 := ⟨_, rfl⟩
        rw [hd2] at hprog
        rw [hd2, hq2] at hsim
        go_wp2_with (first
          | (go_at_call 17; (with_reducible refine hprog.mono ?_); rintro e w1 ⟨rfl, hD1, o1⟩; have hQ1 := hQA.on o1; have hA1 := o1.rows _ _ 39 _ hA calm39; obtain ⟨s0, s1, s2⟩ := row3 hA1; obtain ⟨pS1, cS1, pT1, cT1, pW1, cW1, pC1, cC1, m1, rv1⟩ := hQ1.facts; obtain ⟨e0, e1, e2, e3, e4, e5, e6, e7⟩ := cells8 m1; have K1 := KA.onto o1; have hrr := rup_walk rv1 K1.size; rw [hq2] at hrr)
          | (go_at_call 18; (with_reducible refine hrr.mono ?_); rintro e w2 ⟨v2, rfl, hv2, k2⟩; obtain ⟨a1, a2, a3, a4, rfl, hr2⟩ := hv2.out; obtain ⟨pS2, cS2, pT2, cT2, pW2, cW2, pC2, cC2, rfl, rfl, rfl, rfl⟩ := hr2.slices; unfold R.cells; have m2 := k2.block m1; obtain ⟨g0, g1, g2, g3, g4, g5, g6, g7⟩ := cells8 m2; obtain ⟨f0, f1, f2, f3, f4, f5, f6, f7⟩ := frozen8 m2; have K2 := K1.trans k2; have hst := QB.store (q2 := q2) (hQ1.kept k2 K1.size) HC.out (hr2); have hQT := hst.1; have hDT := hst.2 (k2.dk hD1); have KT := eight_kept K2 HC.out (.slice pS2 q2.S.length cS2) (.slice pT2 q2.torn.length cT2) (.slice pW2 q2.wait.length cW2) (.slice pC2 q2.cuts.length cC2) (.int .i64 (q2.acts : Nat)) (.int .i64 (q2.all : Nat)) (.int .i64 (q2.fails : Nat)) (.bool q2.dead); have HT : Hid (_ ∧ _ ∧ _) := ⟨hQT, hDT, KT⟩; clear hst hQT hDT KT))
        obtain ⟨hQT, hDT, KT⟩ := HT.out
        clear HT
        generalize ((((((((w2.setCell ⟨c, 0, none⟩ (.slice pS2 q2.S.length cS2)).setCell ⟨c, 1, none⟩ (.slice pT2 q2.torn.length cT2)).setCell ⟨c, 2, none⟩ (.slice pW2 q2.wait.length cW2)).setCell ⟨c, 3, none⟩ (.slice pC2 q2.cuts.length cC2)).setCell ⟨c, 4, none⟩ (.int .i64 (q2.acts : Nat))).setCell ⟨c, 5, none⟩ (.int .i64 (q2.all : Nat))).setCell ⟨c, 6, none⟩ (.int .i64 (q2.fails : Nat))).setCell ⟨c, 7, none⟩ (.bool q2.dead)) = WT at *
        have hS2 := hsim.2
        have h19 : ∀ j, Calls Try.prog 19 #[.pointer (some ⟨b, 0, none⟩)] (WT.drewN j) fun e w' => e = .returned (.bool d2.dead) ∧ w' = WT.drewN j := fun j => dead_walk (((Kept.refl WT).drewN j).dk hDT)
        have h20 : ∀ j, Calls Try.prog 20 #[.pointer (some ⟨b, 0, none⟩)] (WT.drewN j) fun e w' => e = .returned (.int .i64 (d2.acts : Nat)) ∧ w' = WT.drewN j := fun j => acts_walk (((Kept.refl WT).drewN j).dk hDT)
        have h21 : ∀ j, Calls Try.prog 21 #[.pointer (some ⟨b, 0, none⟩)] (WT.drewN j) fun e w' => e = .returned (.int .i64 (d2.fails : Nat)) ∧ w' = WT.drewN j := fun j => fails_walk (((Kept.refl WT).drewN j).dk hDT)
        obtain ⟨_, _, _, _, _, _, _, _, mT, _⟩ := hQT.facts
        obtain ⟨_, _, _, _, _, t5, t6, t7⟩ := cells8 mT
        rw [hS2.all] at t5
        rw [hS2.fails] at t6
        rw [hS2.dead] at t7
        have HP : Hid (PL w (k + 1) b g c WT) := ⟨⟨d2, q2, hDT, hQT, hS2, by rw [← hd2]; exact (up_ok hO).succ, by rw [← hq2, rup_len]; exact hq⟩, KT, HC.out⟩
        clear hQT hDT KT hS2 mT
        go_quiet (first
          | (go_at_call 19; exact Calls.quiet_of_same (h19 _))
          | (go_at_call 20; exact Calls.quiet_of_same (h20 _))
          | (go_at_call 21; exact Calls.quiet_of_same (h21 _)))
        go_wp2
        go_roundg r
        case measure => omega
        case rel => exact ⟨k + 1, by have := HK.out; omega, by go_num, HP.out.kept ((Kept.refl _).drewN _)⟩
end Go.Proofs.Ytfnfdngenohhhaa
