/- The walk of the statement on chains: it returns true. Conditions: errors.errorType and the library's table of powers of ten hold what the program's text lays; the list's cells hold strings and numbers. -/
import Derived.Test.YtbdlobmciemadaaDoorWalkL
import Derived.Deep.RegionWith
import Derived.Deep.RegionHeld3
namespace Go.Proofs.YtbdlobmciemadaaDoor
open Go.RowKit

theorem chain_gd {w W : World} {l : List Nd} {err : Value} (h : Gd w W) (hch : Ch W l err) (hl : l.length ≤ 20) :
    Calls Tryd.prog 9 #[err] W fun e w' => ∃ v, e = .returned v ∧ Nums w' l v ∧ Kept W w' ∧ Gd w w' :=
  (chain_walk l err W hch h.d).mono fun _ _ ⟨v, he, hn, k⟩ => ⟨v, he, by rw [List.take_of_length_le (by omega)] at hn; exact hn, k, h.step k⟩

theorem first_gd {w W : World} {l : List Nd} {err : Value} (h : Gd w W) (hch : Ch W l err) (hl : l.length ≤ 20) :
    Calls Tryd.prog 12 #[err] W fun e w' => e = .returned (.int .i64 (last l)) ∧ Kept W w' ∧ Gd w w' :=
  (first_walk l err W hch h.d).mono fun _ _ ⟨he, k⟩ => ⟨by rw [List.take_of_length_le (by omega)] at he; exact he, k, h.step k⟩

/-- The chain, in a world that has at most grown. -/
structure Sc (w : World) (l : List Nd) (err : Value) (W : World) : Prop where
  gd : Gd w W
  ch : Ch W l err

theorem Sc.step {w W W' : World} {l : List Nd} {err : Value} (h : Sc w l err W) (k : Kept W W') : Sc w l err W' := ⟨h.gd.step k, Ch.kept k _ _ h.ch⟩

theorem code_sc {w W : World} {l : List Nd} {err : Value} {z : Int} (hz : code l = z) (h : Sc w l err W) :
    Calls Tryd.prog 11 #[err] W fun e w' => e = .returned (.int .i64 z) ∧ w' = W := by
  subst hz; exact code_walk l err W h.ch

theorem first_sc {w W : World} {l : List Nd} {err : Value} {z : Int} (hz : last l = z) (hl : l.length ≤ 20) (h : Sc w l err W) :
    Calls Tryd.prog 12 #[err] W fun e w' => e = .returned (.int .i64 z) ∧ Kept W w' ∧ Sc w l err w' := by
  subst hz; exact (first_gd h.gd h.ch hl).mono fun _ _ ⟨he, k, _⟩ => ⟨he, k, h.step k⟩

theorem code_at {l : List Nd} {y : Nd} (h : l[0]? = some y) : code l = y.c := by
  cases l with
  | nil => simp at h
  | cons x r => simp at h; subst h; rfl

theorem last_at {l : List Nd} {q : Nat} {y : Nd} (hq : l.length = q + 1) (h : l[q]? = some y) : last l = y.c := by
  unfold last; rw [List.getLast?_eq_getElem?, hq, Nat.add_sub_cancel, h]

set_option maxRecDepth 100000 in
set_option maxHeartbeats 4000000 in
theorem chains_walk (p : Option Addr) (n cap : Nat) (w : World) (hgv : Given w p n) (hd : Lds w) :
    Calls Tryd.prog 3 #[.slice p n cap] w fun e w' => e = .returned (.bool true) ∧ Kept w w' := by
  have hm := made_given cap hgv hd
  clear hgv hd
  go_enter Tryd.func3, Tryd.ntmps3
  go_wp2_with (go_at_call 8; refine hm.mono ?_; rintro e w1 ⟨l, err, g, cap1, rfl, hch, hnum, hl, hsm, h1⟩; clear hm; go_wp2_with fail; refine (chain_gd h1 hch hl).mono ?_; rintro e w2 ⟨v, rfl, hnums, k2, h2⟩; obtain ⟨pv, capv, rfl⟩ := hnums.shape; go_wp2_with fail; refine (awake_gd h2).mono ?_; rintro e w3 ⟨rfl, k3, h3⟩)
  have HS : Hid (Sc w l err w3) := ⟨h3, Ch.kept (k2.trans k3) _ _ hch⟩
  have HN : Hid (NumI w3 l g cap1) := hnum.kept (k2.trans k3)
  have HV : Hid (Nums w3 l (.slice pv l.length capv)) := hnums.kept k3
  have hcap := hnum.cap
  clear h1 h2 h3 hch hnum hnums hsm k2 k3
  by_cases hpos : 0 < l.length
  · obtain ⟨gv, capv', ev, hcapv, hat⟩ := HV.out.some hpos
    simp only [Value.slice.injEq, true_and] at ev
    obtain ⟨rfl, rfl⟩ := ev
    have HA : Hid (∀ k y, l[k]? = some y → w3.cell? ⟨gv, k, none⟩ = some (.int .i64 y.c)) := hat
    clear hat HV
    go_loopg [7] l.length (fun m i wx => ∃ k : Nat, k + m = l.length ∧ i = .int .i64 k ∧ Kept w3 wx)
    case atStart => exact ⟨0, by omega, rfl, Kept.refl _⟩
    case round =>
      obtain ⟨k, hkm, rfl, hk⟩ := hrel
      by_cases hlt : k < l.length
      · obtain ⟨y, hy⟩ : ∃ y, l[k]? = some y := ⟨l[k], List.getElem?_eq_getElem hlt⟩
        have c0 := hk.cell (HA.out k y hy)
        have c1 := hk.cell (HN.out.at' k y hy)
        clear hy
        go_wp2
        go_quiet (fail)
        go_wp2
        have hkd := hk.trans (Kept.drewN wr nq)
        obtain ⟨q, rfl⟩ : ∃ q, gk = q + 1 := ⟨gk - 1, by omega⟩
        go_roundg q
        case measure => omega
        case rel => exact ⟨k + 1, by omega, by go_num, hkd⟩
      · obtain rfl : k = l.length := by omega
        obtain ⟨q, hq⟩ : ∃ q, l.length = q + 1 := ⟨l.length - 1, by omega⟩
        have hne : (((q : Int) + 1) == 0) = false := by rw [beq_eq_false_iff_ne]; omega
        obtain ⟨y0, hy0⟩ : ∃ y, l[0]? = some y := ⟨l[0], List.getElem?_eq_getElem (by omega)⟩
        obtain ⟨y1, hy1⟩ : ∃ y, l[q]? = some y := ⟨l[q], List.getElem?_eq_getElem (by omega)⟩
        have c0 := hk.cell (HN.out.at' 0 y0 hy0)
        have c1 := hk.cell (HN.out.at' q y1 hy1)
        have E0 : Hid (code l = y0.c) := code_at hy0
        have E1 : Hid (last l = y1.c) := last_at hq hy1
        have hq20 : q < 20 := by omega
        have b0 : (0 : Int) ≤ (q : Int) := by omega
        have b1 : (q : Int) ≤ 19 := by omega
        have hwr : IntKind.i64.wrap ((q : Int) + 1 - 1) = (q : Int) := by rw [IntKind.wrap_i64]; omega
        have hwr2 : IntKind.i64.wrap (q : Int) = (q : Int) := by rw [IntKind.wrap_i64]; omega
        have hwr3 : (q : Int).toNat = q := by omega
        have hwr4 : ((q : Int) < (q : Int) + 1) = True := by simp; omega
        have hsd : Sc w l err wr.drew := (HS.out.step hk).step (Kept.drewN wr 1)
        have h11 := code_sc (w := w) E0.out hsd
        have h12 := first_sc (w := w) E1.out hl hsd
        have D0 : Hid (wr.drew.cell? ⟨g, 0, none⟩ = some (.int .i64 y0.c)) := c0
        have D1 : Hid (wr.drew.cell? ⟨g, q, none⟩ = some (.int .i64 y1.c)) := c1
        generalize y0.c = z0 at *
        generalize y1.c = z1 at *
        clear hy0 hy1 HA hsd E0 E1 HS HN hk
        go_wp2
        go_region_held3 (fun W => W.cell? ⟨g, 0, none⟩ = some (.int .i64 z0) ∧ W.cell? ⟨g, q, none⟩ = some (.int .i64 z1)) (go_keep) (first
          | (go_at_call 11; refine h11.mono ?_; rintro e v1 ⟨rfl, rfl⟩)
          | (go_at_call 12; refine h12.mono ?_; rintro e v2 ⟨rfl, kv, hsv⟩; have d0 := kv.cell D0.out; have d1 := kv.cell D1.out))
        all_goals go_wp2
        all_goals go_ret
        all_goals exact ⟨rfl, hsv.gd.k⟩
  · obtain rfl : l = [] := List.eq_nil_of_length_eq_zero (by omega)
    have hs0 := HS.out
    clear HV HN
    refine wp_loop_rounds 1 ?_
    rw [rounds_succ]
    go_wp2_with (first
      | (go_at_call 11; refine (code_sc (w := w) (z := 0) rfl hs0).mono ?_; rintro e v1 ⟨rfl, rfl⟩)
      | (go_at_call 12; refine (first_sc (w := w) (z := 0) rfl hl hs0).mono ?_; rintro e v2 ⟨rfl, kv, hsv⟩))
    go_ret
    exact ⟨rfl, hsv.gd.k⟩
end Go.Proofs.YtbdlobmciemadaaDoor
