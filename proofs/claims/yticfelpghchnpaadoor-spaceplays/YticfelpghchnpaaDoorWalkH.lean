/- The walk of the statement on acts: whatever is used and freed, places answer as its own list does. Conditions: the library's table is laid. -/
import Derived.Test.YticfelpghchnpaaDoorWalkG
import Derived.Deep.CutRange
import Derived.Deep.RegionHeld3
import Derived.Deep.DrawnRows
namespace Go.Proofs.YticfelpghchnpaaDoor
open Go.ChangeShapes Go.WideShapes Go.ChangeAt Go.RowKit

/-- What holds ahead of each act. -/
structure Inv (w W : World) (b m : Nat) (g c : Nat) (us : List Bool) : Prop where
  kept : Kept w W
  sp : ∃ u, SAt w.heap.size W b m (freeN us) u ∧ ∀ i, i < m → u i = usedIn us i
  mine : UAt W (.slice (some ⟨g, 0, none⟩) m c) us
  len : us.length = m
  leg : w.heap.size ≤ g

theorem made_used {w1 : World} (g n : Nat) (h : w1.heap[g]? = some (.cells (List.replicate n (Value.bool false)).toArray 4)) (hn : n ≤ 255) : UAt w1 (.slice (some ⟨g, 0, none⟩) n n) (List.replicate n false) := by
  refine ⟨⟨by simp, .inr ⟨g, n, _, by simp, Nat.zero_le _, h, by simp, by unfold maxLen; omega, by simp, by simp⟩⟩, ⟨g, n, by simp⟩⟩

theorem inv_new {w W : World} {b n g : Nat} (hk : Kept w W) (hs : SAt w.heap.size W b n n (fun _ => false)) (hg : W.heap[g]? = some (.cells (List.replicate n (Value.bool false)).toArray 4)) (hl : w.heap.size ≤ g) (hn : n ≤ 255) :
    Inv w W b n g n (List.replicate n false) := by
  refine ⟨hk, ⟨fun _ => false, ?_, fun i hi => ?_⟩, made_used g n hg hn, by simp, hl⟩
  · simpa [freeN] using hs
  · simp [usedIn, hi]

theorem SAt.base {B B' : Nat} {w : World} {b m l : Nat} {u : Nat → Bool} (h : SAt B w b m l u) (hB : B' ≤ B) : SAt B' w b m l u := by
  obtain ⟨ws, v, k, hu⟩ := h.out
  refine ⟨ws, v, ⟨k.blk, ⟨k.row.1, ?_⟩, Nat.le_trans hB k.leb, k.few, k.free, k.long, k.word⟩, hu⟩
  rcases k.row.2 with e | ⟨g, cap, cur, h1, h2, h3⟩
  · exact .inl e
  · exact .inr ⟨g, cap, cur, h1, Nat.le_trans hB h2, h3⟩

theorem Inv.after {w W W' : World} {b m g c : Nat} {us : List Bool} (h : Inv w W b m g c us) (k : Kept W W') : Inv w W' b m g c us := by
  obtain ⟨u, hs, hu⟩ := h.sp
  exact ⟨h.kept.trans k, ⟨u, hs.kept k, hu⟩, h.mine.kept k, h.len, h.leg⟩

theorem Inv.turn {w W W2 : World} {b m g c l' : Nat} {us : List Bool} {u' : Nat → Bool} (h : Inv w W b m g c us) (a : Nat) (x : Bool) (ha : a < m)
    (hs : SAt w.heap.size W2 b m l' u') (ho : On w.heap.size W W2) (hl : l' = freeN (us.set a x)) (hu : ∀ i, i < m → u' i = usedIn (us.set a x) i) :
    Inv w (W2.setCell ⟨g, a, none⟩ (.bool x)) b m g c (us.set a x) := by
  have hm := h.mine.on ho
  have hlen := h.len
  subst hlen
  obtain ⟨cs, hg⟩ := hm.blk
  refine ⟨?_, ⟨u', by rw [← hl]; exact hs.other hg calm4 _, hu⟩, hm.put rfl a x, by simp, h.leg⟩
  have hk : Kept w W2 := ⟨h.kept.out.trans ho.below⟩
  exact hk.setCell h.leg _

theorem Inv.cell {w W : World} {b m g c : Nat} {us : List Bool} (h : Inv w W b m g c us) (a : Nat) (ha : a < m) : W.cell? ⟨g, a, none⟩ = some (.bool (usedIn us a)) ∧ W.frozen? ⟨g, a, none⟩ = false := by
  have hm := h.mine
  have hlen := h.len
  subst hlen
  exact hm.cell a ha
theorem UAt.cellOf {w : World} {g c m : Nat} {us : List Bool} (h : UAt w (.slice (some ⟨g, 0, none⟩) m c) us) (hl : us.length = m) (a : Nat) (ha : a < m) : w.cell? ⟨g, a, none⟩ = some (.bool (usedIn us a)) ∧ w.frozen? ⟨g, a, none⟩ = false := by
  subst hl
  exact h.cell a ha

/-- A number that an int can say. -/
structure Small (a : Int) : Prop where
  out : a < 9223372036854775808

set_option maxHeartbeats 2000000 in
set_option maxRecDepth 100000 in
theorem plays_walk (a0 : Int) (p : Option Addr) (n0 cap0 : Nat) (w : World) (gv : Given w p n0) (hL : Lds w) : Calls Tryd.prog 3 #[.int .i64 a0, .slice p n0 cap0] w fun e w' => e = .returned (.bool true) ∧ Kept w w' := by
  obtain ⟨bl, off, what, at_, long, ptr, gc0, gc1, fits⟩ := gv
  obtain ⟨n, hn, en⟩ := low 8 255 (by omega) (by decide) a0
  have en' : bits .and .i64 a0 255 = (n : Int) := en
  have hn' : n < 256 := hn
  clear en hn
  obtain ⟨i4, hi4, hz4, hs4, hby4⟩ := info_parts info4
  have hnw : ∀ w, Calls Tryd.prog 6 #[.int .i64 (n : Int)] w fun e w' => ∃ b, e = .returned (.pointer (some ⟨b, 0, none⟩)) ∧ SAt w.heap.size w' b n n (fun _ => false) ∧ Kept w w' := new_walk n (by omega)
  have hmk : ∀ w : World, ∃ w', (Instr.makeSlice 25 (.int .i64 (n : Int)) (.int .i64 (n : Int))).run Tryd.prog w = .ok (.slice (some ⟨w.heap.size, 0, none⟩) n n) w' ∧ w'.heap[w.heap.size]? = some (.cells (List.replicate n (Value.bool false)).toArray 4) ∧ Kept w w' := by
    intro w
    obtain ⟨w1, mk, ow, gw⟩ := run_makeSlice_full (P := Tryd.prog) w w.heap.size 25 4 i4 _ 1 Tryd.underlying25 hi4 hz4 hs4 .i64 .i64 n (by omega) (by rw [hby4]; omega) (by unfold maxLen; omega) (Nat.le_refl _)
    exact ⟨w1, mk, made_row ow, grown_none gw⟩
  clear hi4 hz4 hs4 hby4
  obtain ⟨mw, hmw⟩ := Classical.axiomOfChoice hmk
  have m1 : ∀ w, (Instr.makeSlice 25 (.int .i64 (n : Int)) (.int .i64 (n : Int))).run Tryd.prog w = .ok (.slice (some ⟨w.heap.size, 0, none⟩) n n) (mw w) := fun w => (hmw w).1
  have m2 : Hid (∀ w : World, (mw w).heap[w.heap.size]? = some (.cells (List.replicate n (Value.bool false)).toArray 4) ∧ Kept w (mw w)) := fun w => (hmw w).2
  clear hmk hmw
  go_enter Tryd.func3, Tryd.ntmps3
  go_upto_region 2 with fail
  go_cut [6, 7] from 16 to 19 (fun sv uv wx => ∃ b g, sv = .pointer (some ⟨b, 0, none⟩) ∧ uv = .slice (some ⟨g, 0, none⟩) n n ∧ Inv w wx b n g n (List.replicate n false))
  case first =>
    go_region_with ((go_at_call 6; refine (hnw _).mono ?_; rintro e w1 ⟨b, rfl, hs1, hk1⟩))
    all_goals (go_wp2_with fail)
    all_goals go_meet
    · have k1 : Kept w w1 := (Kept.refl w).drew.trans hk1
      exact ⟨b, w1.heap.size, rfl, rfl, inv_new (k1.trans (m2.out w1).2) (hs1.kept (m2.out w1).2) (m2.out w1).1 k1.size (by omega)⟩
    · have k1 : Kept w (mw w.drew) := (Kept.refl w).drew.trans (m2.out w.drew).2
      exact ⟨b, w.heap.size, rfl, rfl, inv_new (k1.trans hk1) (hs1.base k1.size) (hk1.block (m2.out w.drew).1) (Nat.le_refl _) (by omega)⟩
  case rest =>
    obtain ⟨b, g, rfl, rfl, hI0⟩ := hcut
    have f7 := awake_walk wc (hL.kept hI0.kept)
    clear m1 m2 hnw
    generalize List.replicate n false = us0 at hI0
    go_wp2_with (first
      | (go_at_call 7; (with_reducible refine f7.mono ?_); rintro e W1 ⟨rfl, hk1⟩; clear f7; have hI1 := hI0.after hk1; obtain ⟨u1, hs1, hu1⟩ := hI1.sp; have f8 := many_walk hs1; have HI1 : Hid (Inv w W1 b n g n us0) := hI1; clear hI1 hs1 hu1 hI0 hk1)
      | (go_at_call 8; (with_reducible refine f8.mono ?_); rintro e Wx ⟨rfl, hWx⟩; rw [hWx]; clear hWx f8))
    go_loopw [8] (fun t W => ∃ (k : Nat) (us : List Bool), k ≤ n0 ∧ k ≤ 200 ∧ t = .int .i64 (k : Nat) ∧ Inv w W b n g n us) (fun t _ => n0 - (intOf t).toNat)
    case atStart => exact ⟨0, us0, Nat.zero_le _, Nat.zero_le _, rfl, HI1.out⟩
    case round =>
      obtain ⟨k, us, hk0, hk2, rfl, hI⟩ := hrel
      by_cases hlt : k < n0 ∧ k < 200
      · obtain ⟨hlt, h200⟩ := hlt
        have hp := ptr (by omega)
        subst hp
        clear ptr
        have C0 := hI.kept.cell (gc0 k hlt)
        have C1 := hI.kept.cell (gc1 k hlt)
        have hfa := fits k hlt
        generalize at_ k = a at C1 hfa
        obtain ⟨t, ht, et⟩ := bit_of (what k)
        generalize what k = wh at C0 et
        have HI : Hid (Inv w wr b n g n us) := hI
        have hlen : Hid (us.length = n) := hI.len
        have hLW : Lds wr := hL.kept hI.kept
        obtain ⟨u, hs, hu0⟩ := hI.sp
        have hu : Hid (∀ i, i < n → u i = usedIn us i) := hu0
        clear hu0 gc0 gc1 fits
        by_cases ho : a < 0 ∨ (n : Int) ≤ a
        · rcases (show a < 0 ∨ (0 ≤ a ∧ (n : Int) ≤ a) by omega) with h0 | ⟨h0, h1⟩
          · have h0' : ¬ (0 ≤ a) := by omega
            by_cases t0 : t = 0
            · subst t0
              have et' : bits .and .i64 wh 1 = 0 := et
              clear et
              have f9 := use_out hs a ho
              have f11 := used_out hs a ho
              have f12 := first_at hs hLW a hfa
              have f13 := ref_walk hI.mine (by rw [hlen.out]; omega) a hfa
              go_wp2_with (first
                | (go_at_call 9; (with_reducible refine f9.mono ?_); rintro e Wx ⟨rfl, hWx⟩; rw [hWx]; clear hWx f9)
                | (go_at_call 11; (with_reducible refine f11.mono ?_); rintro e Wx ⟨rfl, hWx⟩; rw [hWx]; clear hWx f11)
                | (go_at_call 12; (with_reducible refine f12.mono ?_); rintro e Wx ⟨r, rfl, hr, hWx⟩; rw [hWx]; clear hWx f12)
                | (go_at_call 13; (with_reducible refine f13.mono ?_); rintro e Wx ⟨r', rfl, hr', hWx⟩; rw [hWx]; clear hWx f13; obtain rfl := both_first hr hr' hlen.out hu.out))
              go_roundw
              case rel => exact ⟨k + 1, us, by omega, by omega, by go_num, HI.out⟩
              case measure => simp [intOf]; omega
            · obtain rfl : t = 1 := by omega
              have et' : bits .and .i64 wh 1 = 1 := et
              clear et
              have f10 := free_out hs a ho
              have f11 := used_out hs a ho
              have f12 := first_at hs hLW a hfa
              have f13 := ref_walk hI.mine (by rw [hlen.out]; omega) a hfa
              go_wp2_with (first
                | (go_at_call 10; (with_reducible refine f10.mono ?_); rintro e Wx ⟨rfl, hWx⟩; rw [hWx]; clear hWx f10)
                | (go_at_call 11; (with_reducible refine f11.mono ?_); rintro e Wx ⟨rfl, hWx⟩; rw [hWx]; clear hWx f11)
                | (go_at_call 12; (with_reducible refine f12.mono ?_); rintro e Wx ⟨r, rfl, hr, hWx⟩; rw [hWx]; clear hWx f12)
                | (go_at_call 13; (with_reducible refine f13.mono ?_); rintro e Wx ⟨r', rfl, hr', hWx⟩; rw [hWx]; clear hWx f13; obtain rfl := both_first hr hr' hlen.out hu.out))
              go_roundw
              case rel => exact ⟨k + 1, us, by omega, by omega, by go_num, HI.out⟩
              case measure => simp [intOf]; omega
          · have h1' : ¬ (a < (n : Int)) := by omega
            by_cases t0 : t = 0
            · subst t0
              have et' : bits .and .i64 wh 1 = 0 := et
              clear et
              have f9 := use_out hs a ho
              have f11 := used_out hs a ho
              have f12 := first_at hs hLW a hfa
              have f13 := ref_walk hI.mine (by rw [hlen.out]; omega) a hfa
              go_wp2_with (first
                | (go_at_call 9; (with_reducible refine f9.mono ?_); rintro e Wx ⟨rfl, hWx⟩; rw [hWx]; clear hWx f9)
                | (go_at_call 11; (with_reducible refine f11.mono ?_); rintro e Wx ⟨rfl, hWx⟩; rw [hWx]; clear hWx f11)
                | (go_at_call 12; (with_reducible refine f12.mono ?_); rintro e Wx ⟨r, rfl, hr, hWx⟩; rw [hWx]; clear hWx f12)
                | (go_at_call 13; (with_reducible refine f13.mono ?_); rintro e Wx ⟨r', rfl, hr', hWx⟩; rw [hWx]; clear hWx f13; obtain rfl := both_first hr hr' hlen.out hu.out))
              go_roundw
              case rel => exact ⟨k + 1, us, by omega, by omega, by go_num, HI.out⟩
              case measure => simp [intOf]; omega
            · obtain rfl : t = 1 := by omega
              have et' : bits .and .i64 wh 1 = 1 := et
              clear et
              have f10 := free_out hs a ho
              have f11 := used_out hs a ho
              have f12 := first_at hs hLW a hfa
              have f13 := ref_walk hI.mine (by rw [hlen.out]; omega) a hfa
              go_wp2_with (first
                | (go_at_call 10; (with_reducible refine f10.mono ?_); rintro e Wx ⟨rfl, hWx⟩; rw [hWx]; clear hWx f10)
                | (go_at_call 11; (with_reducible refine f11.mono ?_); rintro e Wx ⟨rfl, hWx⟩; rw [hWx]; clear hWx f11)
                | (go_at_call 12; (with_reducible refine f12.mono ?_); rintro e Wx ⟨r, rfl, hr, hWx⟩; rw [hWx]; clear hWx f12)
                | (go_at_call 13; (with_reducible refine f13.mono ?_); rintro e Wx ⟨r', rfl, hr', hWx⟩; rw [hWx]; clear hWx f13; obtain rfl := both_first hr hr' hlen.out hu.out))
              go_roundw
              case rel => exact ⟨k + 1, us, by omega, by omega, by go_num, HI.out⟩
              case measure => simp [intOf]; omega
        · obtain ⟨q, rfl⟩ : ∃ q : Nat, a = (q : Int) := ⟨a.toNat, by omega⟩
          have ha : q < n := by omega
          have hal : q < us.length := by rw [hlen.out]; exact ha
          have h0 : (0 : Int) ≤ (q : Int) := by omega
          have h1 : (q : Int) < (n : Int) := by omega
          have HA : Small (q : Int) := ⟨hfa⟩
          clear ho hfa
          have hcl := hI.cell q ha
          have hua := hu.out q ha
          cases hbq : usedIn us q with
          | false =>
            have hb : Hid (usedIn us q = false) := hbq
            rw [hbq] at hcl hua
            obtain ⟨y0, y1⟩ := hcl
            clear hbq
            by_cases t0 : t = 0
            · subst t0
              have et' : bits .and .i64 wh 1 = 0 := et
              clear et
              have f9 := use_new hs hI.kept.size q ha hua (by have := freeN_use us q hal hb.out; omega)
              clear hua
              go_wp2_with (first
                | (go_at_call 9; (with_reducible refine f9.mono ?_); rintro e W2 ⟨rfl, hs2, ho2⟩; clear f9;
                   have hq := (hI.mine.on ho2).cellOf hlen.out q ha; rw [hb.out] at hq; obtain ⟨q0, q1⟩ := hq;
                   have HJ : Hid (Inv w (W2.setCell ⟨g, q, none⟩ (.bool true)) b n g n (us.set q true)) := hI.turn q true ha hs2 ho2 (by have := freeN_use us q hal hb.out; omega) (fun i hi => by rw [usedIn_set us q i _ hal, useAt, hu.out i hi]);
                   obtain ⟨u3, hs3, hu3⟩ := HJ.out.sp;
                   have f11 := used_in hs3 q ha;
                   rw [show u3 q = true by rw [hu3 q ha, usedIn_set us q q _ hal]; simp] at f11;
                   have f12 := first_at hs3 (hL.kept HJ.out.kept) (q : Nat) HA.out;
                   have f13 := ref_walk HJ.out.mine (by rw [HJ.out.len]; omega) (q : Nat) HA.out;
                   have HU : Hid (∀ i, i < n → u3 i = usedIn (us.set q true) i) := hu3;
                   clear hs2 ho2 hs3 hu3)
                | (go_at_call 11; (with_reducible refine f11.mono ?_); rintro e Wx ⟨rfl, hWx⟩; rw [hWx]; clear hWx f11)
                | (go_at_call 12; (with_reducible refine f12.mono ?_); rintro e Wx ⟨r, rfl, hr, hWx⟩; rw [hWx]; clear hWx f12)
                | (go_at_call 13; (with_reducible refine f13.mono ?_); rintro e Wx ⟨r', rfl, hr', hWx⟩; rw [hWx]; clear hWx f13; obtain rfl := both_first hr hr' HJ.out.len HU.out))
              go_roundw
              case rel => exact ⟨k + 1, us.set q true, by omega, by omega, by go_num, HJ.out⟩
              case measure => simp [intOf]; omega
            · obtain rfl : t = 1 := by omega
              have et' : bits .and .i64 wh 1 = 1 := et
              clear et
              have f10 := free_had hs q ha hua
              have f11 := used_in hs q ha
              rw [hua] at f11
              have f12 := first_at hs hLW (q : Nat) HA.out
              have f13 := ref_walk hI.mine (by rw [hlen.out]; omega) (q : Nat) HA.out
              clear hua
              go_wp2_with (first
                | (go_at_call 10; (with_reducible refine f10.mono ?_); rintro e Wx ⟨rfl, hWx⟩; rw [hWx]; clear hWx f10)
                | (go_at_call 11; (with_reducible refine f11.mono ?_); rintro e Wx ⟨rfl, hWx⟩; rw [hWx]; clear hWx f11)
                | (go_at_call 12; (with_reducible refine f12.mono ?_); rintro e Wx ⟨r, rfl, hr, hWx⟩; rw [hWx]; clear hWx f12)
                | (go_at_call 13; (with_reducible refine f13.mono ?_); rintro e Wx ⟨r', rfl, hr', hWx⟩; rw [hWx]; clear hWx f13; obtain rfl := both_first hr hr' hlen.out hu.out))
              go_roundw
              case rel => exact ⟨k + 1, us, by omega, by omega, by go_num, HI.out⟩
              case measure => simp [intOf]; omega
          | true =>
            have hb : Hid (usedIn us q = true) := hbq
            rw [hbq] at hcl hua
            obtain ⟨y0, y1⟩ := hcl
            clear hbq
            by_cases t0 : t = 0
            · subst t0
              have et' : bits .and .i64 wh 1 = 0 := et
              clear et
              have f9 := use_had hs q ha hua
              have f11 := used_in hs q ha
              rw [hua] at f11
              have f12 := first_at hs hLW (q : Nat) HA.out
              have f13 := ref_walk hI.mine (by rw [hlen.out]; omega) (q : Nat) HA.out
              clear hua
              go_wp2_with (first
                | (go_at_call 9; (with_reducible refine f9.mono ?_); rintro e Wx ⟨rfl, hWx⟩; rw [hWx]; clear hWx f9)
                | (go_at_call 11; (with_reducible refine f11.mono ?_); rintro e Wx ⟨rfl, hWx⟩; rw [hWx]; clear hWx f11)
                | (go_at_call 12; (with_reducible refine f12.mono ?_); rintro e Wx ⟨r, rfl, hr, hWx⟩; rw [hWx]; clear hWx f12)
                | (go_at_call 13; (with_reducible refine f13.mono ?_); rintro e Wx ⟨r', rfl, hr', hWx⟩; rw [hWx]; clear hWx f13; obtain rfl := both_first hr hr' hlen.out hu.out))
              go_roundw
              case rel => exact ⟨k + 1, us, by omega, by omega, by go_num, HI.out⟩
              case measure => simp [intOf]; omega
            · obtain rfl : t = 1 := by omega
              have et' : bits .and .i64 wh 1 = 1 := et
              clear et
              have f10 := free_old hs hI.kept.size q ha hua (by have := freeN_lt us q hal hb.out; rw [hlen.out] at this; exact this)
              clear hua
              go_wp2_with (first
                | (go_at_call 10; (with_reducible refine f10.mono ?_); rintro e W2 ⟨rfl, hs2, ho2⟩; clear f10;
                   have hq := (hI.mine.on ho2).cellOf hlen.out q ha; rw [hb.out] at hq; obtain ⟨q0, q1⟩ := hq;
                   have HJ : Hid (Inv w (W2.setCell ⟨g, q, none⟩ (.bool false)) b n g n (us.set q false)) := hI.turn q false ha hs2 ho2 (freeN_free us q hal hb.out).symm (fun i hi => by rw [usedIn_set us q i _ hal, freeAt, hu.out i hi]);
                   obtain ⟨u3, hs3, hu3⟩ := HJ.out.sp;
                   have f11 := used_in hs3 q ha;
                   rw [show u3 q = false by rw [hu3 q ha, usedIn_set us q q _ hal]; simp] at f11;
                   have f12 := first_at hs3 (hL.kept HJ.out.kept) (q : Nat) HA.out;
                   have f13 := ref_walk HJ.out.mine (by rw [HJ.out.len]; omega) (q : Nat) HA.out;
                   have HU : Hid (∀ i, i < n → u3 i = usedIn (us.set q false) i) := hu3;
                   clear hs2 ho2 hs3 hu3)
                | (go_at_call 11; (with_reducible refine f11.mono ?_); rintro e Wx ⟨rfl, hWx⟩; rw [hWx]; clear hWx f11)
                | (go_at_call 12; (with_reducible refine f12.mono ?_); rintro e Wx ⟨r, rfl, hr, hWx⟩; rw [hWx]; clear hWx f12)
                | (go_at_call 13; (with_reducible refine f13.mono ?_); rintro e Wx ⟨r', rfl, hr', hWx⟩; rw [hWx]; clear hWx f13; obtain rfl := both_first hr hr' HJ.out.len HU.out))
              go_roundw
              case rel => exact ⟨k + 1, us.set q false, by omega, by omega, by go_num, HJ.out⟩
              case measure => simp [intOf]; omega
      · have HI : Hid (Inv w wr b n g n us) := hI
        have hlen : Hid (us.length = n) := hI.len
        have hle := freeN_le us
        rw [hI.len] at hle
        obtain ⟨u, hs, hu0⟩ := hI.sp
        have f14 := left_walk hs
        clear ptr gc0 gc1 fits hu0 hs hI
        by_cases hlt' : k < n0
        all_goals
          go_wp2
          go_loop [12, 13] (fun t i => ∃ q : Nat, q ≤ n ∧ i = .int .i64 (q : Nat) ∧ t = .int .i64 (freeN (us.take q) : Nat)) (fun _ i => n - (intOf i).toNat)
          case atStart => exact ⟨0, Nat.zero_le _, rfl, by simp [freeN]⟩
          case round =>
            obtain ⟨q, hq, rfl, rfl⟩ := hrel
            have hqf := freeN_le (us.take q)
            rw [List.length_take] at hqf
            by_cases hqn : q < n
            · obtain ⟨y0, y1⟩ := HI.out.cell q hqn
              have hst := freeN_take us q (by rw [hlen.out]; exact hqn)
              generalize freeN (us.take q) = z at hqf hst ⊢
              cases hbq : usedIn us q with
              | true =>
                rw [hbq] at y0 hst
                have HS : Hid (freeN (us.take (q + 1)) = z) := by rw [hst]; rfl
                clear hbq hst
                go_wp2
                go_round
                case rel => exact ⟨q + 1, by omega, by go_num, by rw [HS.out]⟩
                case measure => simp [intOf]; omega
              | false =>
                rw [hbq] at y0 hst
                have HS : Hid (freeN (us.take (q + 1)) = z + 1) := by rw [hst]; rfl
                clear hbq hst
                go_wp2
                go_round
                case rel => exact ⟨q + 1, by omega, by go_num, by rw [HS.out]; go_num⟩
                case measure => simp [intOf]; omega
            · obtain rfl : q = n := by omega
              rw [List.take_of_length_le (by rw [hlen.out]; exact Nat.le_refl _)] at hqf ⊢
              go_wp2_with (go_at_call 14; (with_reducible refine f14.mono ?_); rintro e Wx ⟨rfl, hWx⟩; rw [hWx]; clear hWx f14)
              go_ret
              exact ⟨by simp, HI.out.kept⟩
end Go.Proofs.YticfelpghchnpaaDoor
