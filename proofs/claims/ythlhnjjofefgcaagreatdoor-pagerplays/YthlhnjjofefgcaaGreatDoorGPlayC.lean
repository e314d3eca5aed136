/- Do all pages say what they must: the law's own loop. Conditions: as for the plain words; no more than 17 pages. -/
import Derived.Test.YthlhnjjofefgcaaGreatDoorGPlayB
import Derived.Deep.RegionWith
import Derived.Deep.CutRange
import Derived.BigQuiet
namespace Go.Proofs.YthlhnjjofefgcaaGreatDoor.G
open Go.ChangeShapes Go.WideShapes Go.ChangeAt Go.RowKit
open D (Dk Ok DiskAt Sec Wr Ct whole)
open P (bs supL Sup supP Small)

/-- A pager under way. -/
structure Rl (B : Nat) (w : World) (p : Nat) (a : Ad) (m i : Nat) (M : Nat → Option Pag) (now kept : List Pge) (W : World) : Prop where
  out : ∃ q, GA B W p a q ∧ Iv m i q M now kept ∧ On B w W

/-- A page is read, as one of its kind and as one of another. -/
theorem read_iv {B : Nat} {w W : World} {p m i : Nat} {a : Ad} {M : Nat → Option Pag} {now kept : List Pge} (h : Rl B w p a m i M now kept W) (hB : B ≤ w.heap.size) (hi : i < 47000) {x : Pge} (hx : x ∈ now) : ∃ g : Nat,
    (∀ (V : World) (kb : Nat), D.Kept W V → V.heap[kb]? = some (.cells #[.int .i64 x.kind] 3) → Calls Tryz.prog 21 #[.pointer (some ⟨p, 0, none⟩), .int .i64 (x.n : Nat), .slice (some ⟨kb, 0, none⟩) 1 1] V fun e w' => e = .returned (.tuple #[.agg #[.int .i64 x.kind, .int .i64 (x.n : Nat), .int .u64 (g : Nat), .string x.s], .int .i64 0]) ∧ Rl B w p a m (i + 1) M now kept w' ∧ On B V w') ∧
    (∀ (V : World) (kb : Nat), D.Kept W V → V.heap[kb]? = some (.cells #[.int .i64 (x.kind % 4 + 1)] 3) → Calls Tryz.prog 21 #[.pointer (some ⟨p, 0, none⟩), .int .i64 (x.n : Nat), .slice (some ⟨kb, 0, none⟩) 1 1] V fun e w' => e = .returned (.tuple #[.agg #[.int .i64 0, .int .i64 0, .int .u64 0, .string ⟨#[]⟩], .int .i64 82]) ∧ Rl B w p a m (i + 1) M now kept w' ∧ On B V w') := by
  obtain ⟨q, hG, v, hO⟩ := h.out
  have hBW := Nat.le_trans hB hO.size
  obtain ⟨q', pg, F, v', e1, e2, e3⟩ := look_iv hG hBW v (by omega) hx
  obtain ⟨pk, pn, pgg, ps⟩ := pg
  dsimp only at e1 e2 e3
  subst e1 e2 e3
  obtain ⟨_, _, f3, f4, _⟩ := v.nowF x hx
  refine ⟨pgg, fun V kb hV hk => ?_, fun V kb hV hk => ?_⟩
  · refine (read_yes (n := x.n) (Nat.le_trans hBW hV.size) hk ⟨x.kind, (x.n : Nat), pgg, x.s⟩ (fun V' hV' => F V' (hV.trans hV')) rfl).mono ?_
    rintro e w' ⟨rfl, g', n⟩
    exact ⟨rfl, ⟨q', g', v', (hO.kept hV hB).trans n⟩, n⟩
  · refine (read_other (n := x.n) (Nat.le_trans hBW hV.size) hk ⟨x.kind, (x.n : Nat), pgg, x.s⟩ (fun V' hV' => F V' (hV.trans hV')) (by show ¬ x.kind = x.kind % 4 + 1; omega)).mono ?_
    rintro e w' ⟨rfl, g', n⟩
    exact ⟨rfl, ⟨q', g', v', (hO.kept hV hB).trans n⟩, n⟩

theorem Rl.kept {B : Nat} {w W W' : World} {p m i : Nat} {a : Ad} {M : Nat → Option Pag} {now kept : List Pge} (h : Rl B w p a m i M now kept W) (hB : B ≤ w.heap.size) (k : D.Kept W W') : Rl B w p a m i M now kept W' := by
  obtain ⟨q, hG, v, hO⟩ := h.out
  exact ⟨q, hG.kept k, v, hO.kept k hB⟩

theorem Rl.fill {B : Nat} {w W : World} {p m i : Nat} {a : Ad} {M : Nat → Option Pag} {now kept : List Pge} (h : Rl B w p a m i M now kept W) (hB : B ≤ w.heap.size) {r : Nat} {k n g : Int} {s : ByteArray} (Z : P.Pg W r k n g s 55) (hr : w.heap.size ≤ r) (x y z : Int) (d : ByteArray) :
    Rl B w p a m i M now kept ((((W.setCell ⟨r, 0, none⟩ (.int .i64 x)).setCell ⟨r, 1, none⟩ (.int .i64 y)).setCell ⟨r, 2, none⟩ (.int .u64 z)).setCell ⟨r, 3, none⟩ (.string d)) := by
  obtain ⟨q, hG, v, hO⟩ := h.out
  obtain ⟨g1, o1⟩ := fill_far hG Z hO hB hr x y z d
  exact ⟨q, g1, v, o1⟩
theorem Rl.size {B : Nat} {w W : World} {p m i : Nat} {a : Ad} {M : Nat → Option Pag} {now kept : List Pge} (h : Rl B w p a m i M now kept W) : w.heap.size ≤ W.heap.size := by
  obtain ⟨q, hG, v, hO⟩ := h.out; exact hO.size
theorem Rl.pl {B : Nat} {w W : World} {p m i : Nat} {a : Ad} {M : Nat → Option Pag} {now kept : List Pge} (h : Rl B w p a m i M now kept W) {B' g c : Nat} {l : List Pge} (k : PL B' w g c l) : PL B' W g c l := by
  obtain ⟨q, hG, v, hO⟩ := h.out; exact k.on hO

/-- A page that was read, in a block of one's own. -/
structure Fl (B : Nat) (w : World) (p : Nat) (a : Ad) (m i : Nat) (M : Nat → Option Pag) (now kept : List Pge) (k n g : Int) (s : ByteArray) (r : Nat) (W : World) : Prop where
  pg : P.Pg W r k n g s 55
  rl : Rl B w p a m i M now kept W
theorem Rl.fl {B : Nat} {w W : World} {p m i : Nat} {a : Ad} {M : Nat → Option Pag} {now kept : List Pge} (h : Rl B w p a m i M now kept W) (hB : B ≤ w.heap.size) {r : Nat} {k n g : Int} {s : ByteArray} (Z : P.Pg W r k n g s 55) (hr : w.heap.size ≤ r) (x y z : Int) (d : ByteArray) :
    Fl B w p a m i M now kept x y z d r ((((W.setCell ⟨r, 0, none⟩ (.int .i64 x)).setCell ⟨r, 1, none⟩ (.int .i64 y)).setCell ⟨r, 2, none⟩ (.int .u64 z)).setCell ⟨r, 3, none⟩ (.string d)) := ⟨Z.fill x y z d, h.fill hB Z hr x y z d⟩
theorem Rl.fl0 {B : Nat} {w W : World} {p m i : Nat} {a : Ad} {M : Nat → Option Pag} {now kept : List Pge} (h : Rl B w p a m i M now kept W) (hB : B ≤ w.heap.size) (x y z : Int) (d : ByteArray) :
    Fl B w p a m i M now kept x y z d W.heap.size (W.alloc (.cells #[.int .i64 x, .int .i64 y, .int .u64 z, .string d] 55)) := ⟨P.Pg.alloc W x y z d 55, h.kept hB ((D.Kept.refl W).alloc _)⟩

theorem Fl.next0 {B : Nat} {w W V w1 : World} {p m i j : Nat} {a : Ad} {M : Nat → Option Pag} {now kept : List Pge} {k n g : Int} {s : ByteArray} {xb : Nat} (h : Fl B w p a m i M now kept k n g s xb W) (hB : B ≤ w.heap.size) (hK : D.Kept W V) (o1 : On B V w1) (R1 : Rl B w p a m j M now kept w1) (o : Obj) :
    Fl B w p a m j M now kept k n g s xb (w1.alloc o) := ⟨⟨((D.Kept.refl w1).alloc o).block (o1.rows _ _ _ _ (hK.block h.pg.out) calm55)⟩, R1.kept hB ((D.Kept.refl w1).alloc o)⟩
theorem Fl.next {B : Nat} {w W V w1 : World} {p m i j : Nat} {a : Ad} {M : Nat → Option Pag} {now kept : List Pge} {k n g : Int} {s : ByteArray} {xb : Nat} (h : Fl B w p a m i M now kept k n g s xb W) (hB : B ≤ w.heap.size) (hK : D.Kept W V) (o1 : On B V w1) (R1 : Rl B w p a m j M now kept w1) {r : Nat} {k' n' g' : Int} {s' : ByteArray} (Z : P.Pg w1 r k' n' g' s' 55) (hr : W.heap.size ≤ r) (x y z : Int) (d : ByteArray) :
    Fl B w p a m j M now kept k n g s xb ((((w1.setCell ⟨r, 0, none⟩ (.int .i64 x)).setCell ⟨r, 1, none⟩ (.int .i64 y)).setCell ⟨r, 2, none⟩ (.int .u64 z)).setCell ⟨r, 3, none⟩ (.string d)) := by
  have hlt := h.pg.lt
  have e : ∀ (W : World) (i : Nat) (v : Value), (W.setCell ⟨r, i, none⟩ v).heap[xb]? = W.heap[xb]? := fun W i v => Below.heap_setCell W ⟨r, i, none⟩ v xb (by show xb ≠ r; omega)
  refine ⟨⟨?_⟩, R1.fill hB Z (Nat.le_trans h.rl.size hr) x y z d⟩
  rw [e, e, e, e]
  exact o1.rows _ _ _ _ (hK.block h.pg.out) calm55

/-- An empty page, and kinds that are asked for. -/
abbrev Z55 : Obj := .cells #[.int .i64 0, .int .i64 0, .int .u64 0, .string ⟨#[]⟩] 55
theorem kinds_at (W : World) (k : Int) : (W.alloc (.cells #[.int .i64 k] 3)).drew.heap[W.heap.size]? = some (.cells #[.int .i64 k] 3) := heap_alloc_new W _
theorem kinds_at2 (W : World) (k : Int) : ((W.alloc Z55).alloc (.cells #[.int .i64 k] 3)).drew.heap[W.heap.size + 1]? = some (.cells #[.int .i64 k] 3) := by
  have := heap_alloc_new (W.alloc Z55) (.cells #[.int .i64 k] 3)
  rw [show (W.alloc Z55).heap.size = W.heap.size + 1 by show (W.heap.push _).size = _; rw [Array.size_push]] at this
  exact this
theorem kinds_at3 (W : World) (k : Int) : ((W.alloc (.cells #[.int .i64 k] 3)).alloc Z55).drew.heap[W.heap.size]? = some (.cells #[.int .i64 k] 3) := ((D.Kept.refl _).alloc Z55).block (heap_alloc_new W _)
theorem zero_at2 (W : World) (k : Int) : ((W.alloc Z55).alloc (.cells #[.int .i64 k] 3)).drew.heap[W.heap.size]? = some Z55 := ((D.Kept.refl _).alloc _).block (heap_alloc_new W _)
theorem zero_at3 (W : World) (k : Int) : ((W.alloc (.cells #[.int .i64 k] 3)).alloc Z55).drew.heap[W.heap.size + 1]? = some Z55 := by
  have := heap_alloc_new (W.alloc (.cells #[.int .i64 k] 3)) Z55
  rw [show (W.alloc (.cells #[.int .i64 k] 3)).heap.size = W.heap.size + 1 by show (W.heap.push _).size = _; rw [Array.size_push]] at this
  exact this

set_option maxRecDepth 100000 in
set_option maxHeartbeats 4000000 in
theorem reads_walk {B : Nat} {w : World} {p m i : Nat} {a : Ad} {q : Pq} {M : Nat → Option Pag} {now kept : List Pge} (hG : GA B w p a q) (hB : B ≤ w.heap.size) (v : Iv m i q M now kept) (hi : i < 40000) {B' g c : Nat} (hL : PL B' w g c now) (hl : now.length ≤ 100) :
    Calls Tryz.prog 17 #[.pointer (some ⟨p, 0, none⟩), .slice (some ⟨g, 0, none⟩) now.length c] w fun e w' => e = .returned (.bool true) ∧ Rl B w p a m (i + 2 * now.length) M now kept w' := by
  have H0 : Hid (Rl B w p a m (i + 2 * 0) M now kept w) := ⟨q, hG, v, On.refl _ _⟩
  have HL : Hid (PL B' w g c now) := hL
  have HF : Hid (∀ x ∈ now, Fit m x) := v.nowF
  have hl' : (now.length : Int) ≤ 100 := by omega
  clear hG v hL
  go_enter Tryz.func17, Tryz.ntmps17
  go_wp2
  go_loopg [5] now.length (fun n c wx => ∃ k : Nat, k + n = now.length ∧ c = .int .i64 k ∧ Rl B w p a m (i + 2 * k) M now kept wx)
  case atStart => exact ⟨0, by omega, rfl, H0.out⟩
  case round =>
    obtain ⟨k, hkn, rfl, hR⟩ := hrel
    by_cases hlt : k < now.length
    · obtain ⟨x, hx⟩ : ∃ x, now[k]? = some x := ⟨now[k], List.getElem?_eq_getElem hlt⟩
      have hxm := List.mem_of_getElem? hx
      obtain ⟨y, hy⟩ : ∃ y, y = i + 2 * k := ⟨_, rfl⟩
      rw [← hy] at hR
      obtain ⟨gg, F1, _⟩ := read_iv hR hB (by omega) hxm
      have HP := HL.out.on (B' := B) (by obtain ⟨_, _, _, hO⟩ := hR.out; exact hO)
      obtain ⟨c0, c1, c2⟩ := HP.cell hx
      have i1 : (0 : Int) ≤ (k : Int) := by omega
      have i2 : (k : Int) < (now.length : Int) := by omega
      have HX : Hid (now[k]? = some x ∧ y = i + 2 * k) := ⟨hx, hy⟩
      have HM : Hid (x ∈ now) := hxm
      have HR : Hid (Rl B w p a m y M now kept wr) := hR
      have HPL : Hid (PL B' wr g c now) := HP
      clear hx hR HP hxm hy
      obtain ⟨xn, xk, xs⟩ := x
      dsimp only at c0 c1 c2 F1
      have hwr := HR.out.size
      have fA := F1 ((wr.alloc (.cells #[.int .i64 xk] 3)).drew) wr.heap.size (((D.Kept.refl wr).alloc _).drew) (kinds_at wr xk)
      have fB := F1 (((wr.alloc (.cells #[.int .i64 0, .int .i64 0, .int .u64 0, .string ⟨#[]⟩] 55)).alloc (.cells #[.int .i64 xk] 3)).drew) (wr.heap.size + 1) ((((D.Kept.refl wr).alloc _).alloc _).drew) (kinds_at2 wr xk)
      have fC := F1 (((wr.alloc (.cells #[.int .i64 xk] 3)).alloc (.cells #[.int .i64 0, .int .i64 0, .int .u64 0, .string ⟨#[]⟩] 55)).drew) wr.heap.size ((((D.Kept.refl wr).alloc _).alloc _).drew) (kinds_at3 wr xk)
      clear F1
      have ca0 : ∀ o, (wr.alloc o).cell? ⟨g, k * 3, none⟩ = some (.int .i64 (xn : Nat)) := fun o => Lib.cell?_alloc_some o c0
      have ca1 : ∀ o, (wr.alloc o).cell? ⟨g, k * 3 + 1, none⟩ = some (.int .i64 xk) := fun o => Lib.cell?_alloc_some o c1
      have cb0 : ∀ o o', ((wr.alloc o).alloc o').cell? ⟨g, k * 3, none⟩ = some (.int .i64 (xn : Nat)) := fun o o' => Lib.cell?_alloc_some o' (Lib.cell?_alloc_some o c0)
      have cb1 : ∀ o o', ((wr.alloc o).alloc o').cell? ⟨g, k * 3 + 1, none⟩ = some (.int .i64 xk) := fun o o' => Lib.cell?_alloc_some o' (Lib.cell?_alloc_some o c1)
      go_upto_region 4 with fail
      go_cut [6, 7] from 10 to 75 (fun v6 v7 wx => ∃ xb, v6 = .pointer (some ⟨xb, 0, none⟩) ∧ v7 = .int .i64 0 ∧ Fl B w p a m (y + 1) M now kept xk (xn : Nat) (gg : Nat) xs xb wx)
      case first =>
        go_region_with (first
          | (go_at_call 21; (with_reducible refine fA.mono ?_); rintro e w1 ⟨rfl, R1, o1⟩; have HE := R1.fl0 hB xk (xn : Nat) (gg : Nat) xs; clear o1 R1)
          | (go_at_call 21; (with_reducible refine fB.mono ?_); rintro e w1 ⟨rfl, R1, o1⟩; have Z1 : P.Pg w1 wr.heap.size 0 0 0 ⟨#[]⟩ 55 := ⟨o1.rows _ _ _ _ (zero_at2 wr xk) calm55⟩; obtain ⟨⟨z0, h0⟩, ⟨z1, h1⟩, ⟨z2, h2⟩, z3, h3⟩ := Z1.ready xk (xn : Nat) (gg : Nat); have HE := R1.fl hB Z1 hwr xk (xn : Nat) (gg : Nat) xs; clear o1 R1)
          | (go_at_call 21; (with_reducible refine fC.mono ?_); rintro e w1 ⟨rfl, R1, o1⟩; have Z1 : P.Pg w1 (wr.heap.size + 1) 0 0 0 ⟨#[]⟩ 55 := ⟨o1.rows _ _ _ _ (zero_at3 wr xk) calm55⟩; obtain ⟨⟨z0, h0⟩, ⟨z1, h1⟩, ⟨z2, h2⟩, z3, h3⟩ := Z1.ready xk (xn : Nat) (gg : Nat); have HE := R1.fl hB Z1 (Nat.le_succ_of_le hwr) xk (xn : Nat) (gg : Nat) xs; clear o1 R1)
          | (go_at_call 21; trace_state; fail))
        all_goals (go_wp2_with fail)
        all_goals go_meet
        all_goals exact ⟨_, rfl, rfl, HE⟩
      case rest =>
        obtain ⟨xb, rfl, rfl, hFl⟩ := hcut
        clear fA fB fC ca0 ca1 cb0 cb1 c0 c1 c2
        obtain ⟨gg2, _, F2⟩ := read_iv hFl.rl hB (by have := HX.out.2; omega) HM.out
        obtain ⟨c0, c1, c2⟩ := (hFl.rl.pl HL.out).cell HX.out.1
        dsimp only at F2 c0 c1 c2
        have hf := HF.out _ HM.out
        have k1 : 1 ≤ xk := hf.2.2.1
        have k4 : xk ≤ 4 := hf.2.2.2.1
        clear hf
        obtain ⟨kd, hkd⟩ : ∃ kd, IntKind.i64.wrap (xk.tmod 4 + 1) = kd := ⟨_, rfl⟩
        have hk : xk % 4 + 1 = kd := by
          rw [← hkd]
          obtain rfl | rfl | rfl | rfl : xk = 1 ∨ xk = 2 ∨ xk = 3 ∨ xk = 4 := by omega
          all_goals rfl
        rw [hk] at F2
        clear hk k1 k4
        have hwc := hFl.rl.size
        have fA := F2 ((wc.alloc (.cells #[.int .i64 kd] 3)).drew) wc.heap.size (((D.Kept.refl wc).alloc _).drew) (kinds_at wc kd)
        have fB := F2 (((wc.alloc (.cells #[.int .i64 0, .int .i64 0, .int .u64 0, .string ⟨#[]⟩] 55)).alloc (.cells #[.int .i64 kd] 3)).drew) (wc.heap.size + 1) ((((D.Kept.refl wc).alloc _).alloc _).drew) (kinds_at2 wc kd)
        have fC := F2 (((wc.alloc (.cells #[.int .i64 kd] 3)).alloc (.cells #[.int .i64 0, .int .i64 0, .int .u64 0, .string ⟨#[]⟩] 55)).drew) wc.heap.size ((((D.Kept.refl wc).alloc _).alloc _).drew) (kinds_at3 wc kd)
        clear F2
        have ca0 : ∀ o, (wc.alloc o).cell? ⟨g, k * 3, none⟩ = some (.int .i64 (xn : Nat)) := fun o => Lib.cell?_alloc_some o c0
        have ca1 : ∀ o, (wc.alloc o).cell? ⟨g, k * 3 + 1, none⟩ = some (.int .i64 xk) := fun o => Lib.cell?_alloc_some o c1
        have cb0 : ∀ o o', ((wc.alloc o).alloc o').cell? ⟨g, k * 3, none⟩ = some (.int .i64 (xn : Nat)) := fun o o' => Lib.cell?_alloc_some o' (Lib.cell?_alloc_some o c0)
        have cb1 : ∀ o o', ((wc.alloc o).alloc o').cell? ⟨g, k * 3 + 1, none⟩ = some (.int .i64 xk) := fun o o' => Lib.cell?_alloc_some o' (Lib.cell?_alloc_some o c1)
        have hxb : xb < wc.heap.size := hFl.pg.lt
        have HFl : Hid (Fl B w p a m (y + 1) M now kept xk (xn : Nat) (gg : Nat) xs xb wc) := hFl
        clear hFl
        go_upto_region 5 with fail
        go_cut [6, 7, 8, 9] from 10 to 75 (fun v6 v7 v8 v9 wx => v6 = .pointer (some ⟨xb, 0, none⟩) ∧ v7 = .int .i64 0 ∧ v9 = .int .i64 82 ∧ Fl B w p a m (y + 2) M now kept xk (xn : Nat) (gg : Nat) xs xb wx)
        case first =>
          go_region_with (first
            | (go_at_call 21; (with_reducible refine fA.mono ?_); rintro e w1 ⟨rfl, R1, o1⟩; have HE := HFl.out.next0 hB (((D.Kept.refl wc).alloc _).drew) o1 R1 (.cells #[.int .i64 0, .int .i64 0, .int .u64 0, .string ⟨#[]⟩] 55); clear o1 R1)
            | (go_at_call 21; (with_reducible refine fB.mono ?_); rintro e w1 ⟨rfl, R1, o1⟩; have Z1 : P.Pg w1 wc.heap.size 0 0 0 ⟨#[]⟩ 55 := ⟨o1.rows _ _ _ _ (zero_at2 wc kd) calm55⟩; obtain ⟨⟨z0, h0⟩, ⟨z1, h1⟩, ⟨z2, h2⟩, z3, h3⟩ := Z1.ready 0 0 0; have HE := HFl.out.next hB ((((D.Kept.refl wc).alloc _).alloc _).drew) o1 R1 Z1 (Nat.le_refl _) 0 0 0 ⟨#[]⟩; clear o1 R1)
            | (go_at_call 21; (with_reducible refine fC.mono ?_); rintro e w1 ⟨rfl, R1, o1⟩; have Z1 : P.Pg w1 (wc.heap.size + 1) 0 0 0 ⟨#[]⟩ 55 := ⟨o1.rows _ _ _ _ (zero_at3 wc kd) calm55⟩; obtain ⟨⟨z0, h0⟩, ⟨z1, h1⟩, ⟨z2, h2⟩, z3, h3⟩ := Z1.ready 0 0 0; have HE := HFl.out.next hB ((((D.Kept.refl wc).alloc _).alloc _).drew) o1 R1 Z1 (Nat.le_succ _) 0 0 0 ⟨#[]⟩; clear o1 R1)
            | (go_at_call 21; trace_state; fail))
          all_goals (go_wp2_with fail)
          all_goals go_meet
          all_goals exact ⟨rfl, rfl, rfl, HE⟩
        case rest =>
          obtain ⟨rfl, rfl, rfl, hFl2⟩ := hcut
          clear fA fB fC ca0 ca1 cb0 cb1 c0 c1 c2
          obtain ⟨c0, c1, c2⟩ := (hFl2.rl.pl HL.out).cell HX.out.1
          obtain ⟨p0, p1, p2, p3⟩ := hFl2.pg.cs
          dsimp only at c0 c1 c2
          have HF2 : Hid (Rl B w p a m (y + 2) M now kept wc) := hFl2.rl
          clear hFl2
          go_wp2
          go_quiet (fail)
          go_wp2
          obtain ⟨n', rfl⟩ : ∃ n', gk = n' + 1 := ⟨gk - 1, by omega⟩
          go_roundg n'
          case measure => omega
          case rel => exact ⟨k + 1, by omega, by go_num, by rw [show i + 2 * (k + 1) = y + 2 by have := HX.out.2; omega]; exact HF2.out.kept hB ((D.Kept.refl _).drewN _)⟩
    · have hkl : k = now.length := by omega
      subst hkl
      have HR : Hid (Rl B w p a m (i + 2 * now.length) M now kept wr) := hR
      clear hR
      go_wp2
      go_ret
      exact ⟨rfl, HR.out⟩
end Go.Proofs.YthlhnjjofefgcaaGreatDoor.G
