/- The walk of BitsGoes. Conditions: the library's table is laid. -/
import Derived.Test.YtanccfbbaeocaaaDoorLNb
namespace Go.Proofs.YtanccfbbaeocaaaDoor.Bt
open Go.RowKit Go.Shelf
attribute [local go_sem] Oper.semAt_some

theorem low63 (x : Int) : ∃ v : Nat, v ≤ 63 ∧ bits .and .i64 x 63 = (v : Int) := by
  have key : (BitVec.ofInt 64 x &&& BitVec.ofInt 64 63).toNat ≤ 63 := by
    rw [BitVec.toNat_and]
    exact Nat.le_trans Nat.and_le_right (by decide)
  refine ⟨(BitVec.ofInt 64 x &&& BitVec.ofInt 64 63).toNat, key, ?_⟩
  show IntKind.i64.wrap ((BitVec.ofInt 64 x &&& BitVec.ofInt 64 63).toNat : Nat) = _
  rw [IntKind.wrap_i64]
  omega
/-- What the law has in memory. -/
structure Gs (w1 W : World) (xv : Value) (m : Nat) : Prop where
  nb : W.heap[w1.heap.size + 1 + 1]? = some (.cells #[.int .i64 (m : Nat)] 3)
  xb : W.heap[w1.heap.size + 1]? = some (.cells #[xv] 22)
  low : Below w1.heap.size w1 W
theorem Gs.stay {w1 W W' : World} {xv : Value} {m B : Nat} {row : Option Nat} (h : Gs w1 W xv m) (hg : W.grownBy W' row) (hr : ∀ r, row = some r → B ≤ r ∧ ∃ o : Obj, W.heap[r]? = some o ∧ o.isCells = false) (hB : w1.heap.size ≤ B) : Gs w1 W' xv m :=
  have hr2 : ∀ r, row = some r → ∃ o : Obj, W.heap[r]? = some o ∧ o.isCells = false := fun r e => (hr r e).2
  ⟨cells_stay hg hr2 h.nb, cells_stay hg hr2 h.xb, below_stay h.low (Nat.le_refl _) hg (fun r e => (hr r e).1) hB⟩
theorem Gs.set {w1 W : World} {xv : Value} {m : Nat} (h : Gs w1 W xv m) (m' : Nat) : W.cell? ⟨w1.heap.size + 1 + 1, 0, none⟩ = some (.int .i64 (m : Nat)) ∧ W.frozen? ⟨w1.heap.size + 1 + 1, 0, none⟩ = false ∧ Gs w1 (W.setCell ⟨w1.heap.size + 1 + 1, 0, none⟩ (.int .i64 (m' : Nat))) xv m' ∧ KeepsOthers W (W.setCell ⟨w1.heap.size + 1 + 1, 0, none⟩ (.int .i64 (m' : Nat))) ∧ Kt w1.heap.size W (W.setCell ⟨w1.heap.size + 1 + 1, 0, none⟩ (.int .i64 (m' : Nat))) := by
  have ot : ∀ k, k ≠ w1.heap.size + 1 + 1 → (W.setCell ⟨w1.heap.size + 1 + 1, 0, none⟩ (.int .i64 (m' : Nat))).heap[k]? = W.heap[k]? := fun k hk => heap_setCell_other _ ⟨w1.heap.size + 1 + 1, 0, none⟩ k _ hk
  have lw := (Below.refl w1.heap.size W).setCell (p := ⟨w1.heap.size + 1 + 1, 0, none⟩) (by show w1.heap.size ≤ w1.heap.size + 1 + 1; omega) (.int .i64 (m' : Nat))
  refine ⟨by rw [cell_of_row _ _ 0 _ _ _ h.nb]; rfl, frozen_of_row _ _ 0 _ _ h.nb, ⟨by rw [heap_setCell_same _ _ 0 _ _ _ h.nb]; rfl, (ot _ (by omega)).trans h.xb, h.low.trans lw⟩, KeepsOthers.setCell _ _ _, lw, fun b cs ty fr hb ht => (ot b ?_).trans hb⟩
  rintro rfl
  rw [h.nb] at hb
  injection hb with hb
  injection hb with _ hb
  rcases ht with rfl | rfl <;> exact absurd hb (by decide)
theorem Gs.old {w1 W : World} {xv : Value} {m : Nat} (h : Gs w1 W xv m) {b : Nat} {o : Obj} (hb : w1.heap[b]? = some o) : W.heap[b]? = some o := (h.low.block b (Array.getElem?_eq_some_iff.1 hb).1).trans hb
theorem not_pre {P : List Pt} (hP : Okp P) {pre : List Nat} {x : Nat} (h : ¬ (ni P)[pre.length]? = some ((x % 1048576 : Nat) : Int)) : ¬ pre ++ [x] <+: nm P := fun hp => by
  obtain ⟨t, ht⟩ := hp
  have e1 : (nm P)[pre.length]? = some x := by rw [← ht, List.append_assoc, List.getElem?_append_right (Nat.le_refl _), Nat.sub_self]; rfl
  have e2 := nm_lt hP (List.mem_of_getElem? e1)
  refine h ?_
  unfold ni
  rw [List.getElem?_map, e1, Nat.mod_eq_of_lt e2]; rfl
structure Npx (P : List Pt) (pre : List Nat) : Prop where
  out : ¬ pre <+: nm P
/-- The end of the law. -/
theorem Gs.fin {w w1 W : World} {xv : Value} {m : Nat} (h : Gs w1 W xv m) (k1 : Kept w w1) (hr : w1.heap[w.heap.size + 1]? = some (.cells #[.bool false] 4)) {W4 : World} (k4 : Kept W W4) {D : Nat} (hD : w1.heap.size ≤ D) (hK : W.heap[D]? = some (.deferred (some []))) :
    W4.cell? ⟨w.heap.size + 1, 0, none⟩ = some (.bool false) ∧ W4.frozen? ⟨w.heap.size + 1, 0, none⟩ = false ∧
    (W4.setCell ⟨w.heap.size + 1, 0, none⟩ (.bool true)).heap[D]? = some (.deferred (some [])) ∧
    ((W4.setCell ⟨w.heap.size + 1, 0, none⟩ (.bool true)).putObj D (.deferred none)).cell? ⟨w.heap.size + 1, 0, none⟩ = some (.bool true) ∧ Kept w ((W4.setCell ⟨w.heap.size + 1, 0, none⟩ (.bool true)).putObj D (.deferred none)) := by
  have b1 := k4.block (h.old hr)
  have hb7 : (W4.setCell ⟨w.heap.size + 1, 0, none⟩ (.bool true)).heap[w.heap.size + 1]? = some (.cells #[.bool true] 4) := by rw [heap_setCell_same _ _ 0 _ _ _ b1]; rfl
  have hK7 : (W4.setCell ⟨w.heap.size + 1, 0, none⟩ (.bool true)).heap[D]? = some (.deferred (some [])) := (KeepsOthers.setCell W4 _ _).same D _ (k4.block hK) rfl
  have lw0 : Below w.heap.size w W4 := (k1.out.trans (h.low.mono k1.size)).trans (k4.out.mono (Nat.le_trans k1.size h.low.size))
  have lw : Below w.heap.size w (W4.setCell ⟨w.heap.size + 1, 0, none⟩ (.bool true)) := lw0.setCell (p := ⟨w.heap.size + 1, 0, none⟩) (by show w.heap.size ≤ w.heap.size + 1; omega) _
  have hg := grownBy_putObj' (W4.setCell ⟨w.heap.size + 1, 0, none⟩ (.bool true)) D (.deferred none)
  have hb8 := cells_stay hg (fun r e => by cases e; exact ⟨_, hK7, rfl⟩) hb7
  exact ⟨by rw [cell_of_row _ _ 0 _ _ _ b1]; rfl, frozen_of_row _ _ 0 _ _ b1, hK7, by rw [cell_of_row _ _ 0 _ _ _ hb8]; rfl, ⟨below_stay (B := w.heap.size) lw (Nat.le_refl _) hg (fun r e => by cases e; exact Nat.le_trans k1.size hD) (Nat.le_refl _)⟩⟩
theorem four_new (w : World) (a b c d : Obj) {W0 : World} (h : (((w.alloc a).alloc b).alloc c).alloc d = W0) :
    Kept w W0 ∧ W0.heap.size = w.heap.size + 4 ∧ W0.heap[w.heap.size + 1]? = some b ∧ W0.heap[w.heap.size + 1 + 1]? = some c ∧ W0.heap[w.heap.size + 1 + 1 + 1]? = some d := by
  subst h
  refine ⟨((((Kept.refl w).alloc _).alloc _).alloc _).alloc _, by simp only [size_alloc], ?_, ?_, ?_⟩
  · exact (((Kept.refl _).alloc _).alloc _).block (by have := alloc_at (w.alloc a) b; rwa [size_alloc] at this)
  · exact ((Kept.refl _).alloc _).block (by have := alloc_at ((w.alloc a).alloc b) c; rwa [size_alloc, size_alloc] at this)
  · have := alloc_at (((w.alloc a).alloc b).alloc c) d; rwa [size_alloc, size_alloc, size_alloc] at this

set_option maxRecDepth 100000 in
set_option maxHeartbeats 4000000 in
theorem goes_law {w : World} (hL : Lds w) {p : Option Addr} {n c : Nat} {zs : List Int} (h : Il w p n c zs) (z : Int) :
    Calls Tryd.prog 5 #[.slice p n c, .int .i64 z] w fun e w' => e = .returned (.bool true) ∧ Kept w w' := by
  obtain ⟨mm, hm, hmm⟩ := low63 z
  have ka : Kept w ((w.alloc (.cells #[.int .i64 z] 3)).alloc (.cells #[.bool false] 4)) := ((Kept.refl w).alloc _).alloc _
  have f1 := (callsIn_wide (n := 4)).2 (set_walk (h.kept ka))
  have HLd : Hid (Lds w) := hL
  have HPo : Hid (Okp (pset (zs.take 100))) := pset_ok _
  generalize pset (zs.take 100) = P at *
  have hb0 : ((w.alloc (.cells #[.int .i64 z] 3)).alloc (.cells #[.bool false] 4)).heap[w.heap.size]? = some (.cells #[.int .i64 z] 3) := ((Kept.refl _).alloc _).block (alloc_at w _)
  have hb1 : ((w.alloc (.cells #[.int .i64 z] 3)).alloc (.cells #[.bool false] 4)).heap[w.heap.size + 1]? = some (.cells #[.bool false] 4) := by have := alloc_at (w.alloc (.cells #[.int .i64 z] 3)) (.cells #[.bool false] 4); rwa [size_alloc] at this
  clear h hL
  refine (callsIn_wide (n := 5)).1 ?_
  have hdd : ∀ k : Nat, (Fence.wide.depth.isSome = true → 1 ≤ k) := fun k h => by cases h
  refine callsIn_of_wp_marks Tryd.func5 rfl trivial ?_ rfl
  simp only [Tryd.ntmps5, List.size_toArray, List.length_cons, List.length_nil, Nat.reduceAdd, Nat.reduceSub, Array.replicate_succ, Array.replicate_zero, List.push_toArray, List.append_toArray, List.nil_append, List.cons_append]
  gi_wp2_with (first
    | (refine ⟨trivial, ?_⟩; (try refine ⟨hdd _, ?_⟩); gi_at_call 6; refine f1.mono ?_; clear f1; rintro e w1 ⟨sp, sn, sc, xp, xn, xc, rfl, S1, X1, hx, k1⟩)
    | (refine ⟨trivial, ?_⟩; (try refine ⟨hdd _, ?_⟩); gi_at_call 22; refine (all_walk _ _ _).mono ?_; rintro e w' ⟨rfl, rfl⟩))
  have hmost := k1.block hb0
  have hres := k1.block hb1
  have kw := ka.trans k1
  obtain ⟨W0, hW0⟩ : ∃ W0, (((w1.alloc (.cells #[.slice sp sn sc] 25)).alloc (.cells #[.slice xp xn xc] 22)).alloc (.cells #[.int .i64 0] 3)).alloc (.cells #[.slice sp sn sc] 25) = W0 := ⟨_, rfl⟩
  obtain ⟨kW, hsz, b1, b2, b3⟩ := four_new w1 _ _ _ _ hW0
  rw [hW0]
  clear hW0 hb0 hb1 ka k1
  have R0 : Gs w1 W0 (.slice xp xn xc) 0 := ⟨b2, b1, kW.out⟩
  have hle : w1.heap.size ≤ W0.heap.size := kW.size
  have hst := all_stops 4 (HLd.out.kept kw) S1 kW (w1.heap.size + 1 + 1 + 1) b3
  have HX : Hid (Il w1 xp xn xc (ni P)) := X1
  have HLen : Hid ((nm P).length = xn) := by have := X1.len; rw [ni_length] at this; exact this
  have hxs := X1.small
  clear b1 b2 b3 S1 X1 HLd
  refine wpIn_rangeFunc_ownH rfl (by omega) (gf := 38) (lb := #[.pointer (some ⟨w1.heap.size + 1 + 1 + 1, 0, none⟩)]) rfl trivial (enters_of Tryd.func38 (by kernel_rfl) rfl)
    hst (fun h k => h.trans k) (kt_b hle) (Below.refl _ _) (fun _ => rfl)
    (fun pre W => Gs w1 W (.slice xp xn xc) pre.length ∧ pre.length ≤ mm)
    (fun c pre W => (c = .ret ∧ Npx P pre) ∨ (c = .exit 0 ∧ Gs w1 W (.slice xp xn xc) pre.length ∧ pre.length = mm + 1))
    (fun pre W W' row hs hg hr => ⟨hs.1.stay hg hr hle, hs.2⟩)
    (fun c pre W W' row hs hg hr => hs.imp id (fun h => ⟨h.1, h.2.1.stay hg hr hle, h.2.2⟩))
    ⟨R0, Nat.zero_le _⟩
    (fun x a' W => a' = { tmps := #[.slice p n c, .int .i64 z, undef, .pointer (some ⟨w.heap.size, 0, none⟩), .pointer (some ⟨w.heap.size + 1, 0, none⟩), .pointer (some ⟨w1.heap.size, 0, none⟩), .pointer (some ⟨w1.heap.size + 1, 0, none⟩), .pointer (some ⟨w1.heap.size + 1 + 1, 0, none⟩), .int .i64 ((x % 1048576 : Nat) : Int), .tuple #[.agg #[.slice sp sn sc], .slice xp xn xc], .slice p n c, .tuple #[.agg #[.slice sp sn sc], .slice xp xn xc], .agg #[.slice sp sn sc], .slice xp xn xc, .agg #[.slice sp sn sc], .func (.func 38) #[] #[.pointer (some ⟨w1.heap.size + 1 + 1 + 1, 0, none⟩)], .int .i64 ((x % 1048576 : Nat) : Int), undef, undef, undef, undef, undef, undef, undef, undef, undef, undef, undef, undef, undef, undef, undef, undef, undef, undef, undef, undef, undef, undef, undef, undef, undef, undef, undef, undef, undef, undef, undef, undef], defers := [] })
    (fun x a' u W W' row hs hg hr => hs)
    ?assign ?body ?done ?stop
  case assign =>
    rintro l' pre x W K ⟨hR, hlen⟩ hK
    have hK2 := fun a' => hK a' W (KeepsFrom.refl _ _) (Kt.refl _ _) ⟨hR, hlen⟩
    clear hK
    dsimp only [enq]
    generalize x % 1048576 = y at *
    gi_wp2
    all_goals rfl
  case body =>
    rintro l' pre x a' W hl' _ ⟨hS, hlen⟩ rfl hpn
    have HNp : Hid (¬ (ni P)[pre.length]? = some ((x % 1048576 : Nat) : Int) → Npx P (pre ++ [x])) := fun hh => ⟨not_pre HPo.out hh⟩
    have hy : x % 1048576 < 1048576 := Nat.mod_lt _ (by decide)
    generalize x % 1048576 = y at *
    obtain ⟨y7, z7, S2, ko, kk⟩ := hS.set (pre.length + 1)
    have y6 : W.cell? ⟨w1.heap.size + 1, 0, none⟩ = some (.slice xp xn xc) := by rw [cell_of_row _ _ 0 _ _ _ hS.xb]; rfl
    have y3 : W.cell? ⟨w.heap.size, 0, none⟩ = some (.int .i64 z) := by rw [cell_of_row _ _ 0 _ _ _ (hS.old hmost)]; rfl
    have y4 : W.cell? ⟨w.heap.size + 1, 0, none⟩ = some (.bool false) := by rw [cell_of_row _ _ 0 _ _ _ (hS.old hres)]; rfl
    have z4 : W.frozen? ⟨w.heap.size + 1, 0, none⟩ = false := frozen_of_row _ _ 0 _ _ (hS.old hres)
    have tst : (storeVar 4 ⟨w.heap.size + 1, 0, none⟩ (.bool false)).run Tryd.prog W = .ok () (W.setCell ⟨w.heap.size + 1, 0, none⟩ (.bool false)) := by
      simp [go_sem, storeVar, y4, z4]
    have hpl : pre.length < xn := by rw [← HLen.out]; exact hpn
    obtain ⟨v, hv⟩ : ∃ v, (ni P)[pre.length]? = some v := ⟨_, List.getElem?_eq_getElem (by rw [ni_length]; exact hpn)⟩
    obtain ⟨xb, xo, rfl, cx0⟩ := HX.out.at hv
    have cx : W.cell? ⟨xb, xo + pre.length, none⟩ = some (.int .i64 v) := (hS.low.cell (World.block_lt_of_cell? w1 _ cx0)).trans cx0
    have y3' : (W.setCell ⟨w1.heap.size + 1 + 1, 0, none⟩ (.int .i64 ((pre.length + 1 : Nat) : Int))).cell? ⟨w.heap.size, 0, none⟩ = some (.int .i64 z) := by rw [cell_of_row _ _ 0 _ _ _ (S2.old hmost)]; rfl
    have y7' : (W.setCell ⟨w1.heap.size + 1 + 1, 0, none⟩ (.int .i64 ((pre.length + 1 : Nat) : Int))).cell? ⟨w1.heap.size + 1 + 1, 0, none⟩ = some (.int .i64 ((pre.length + 1 : Nat) : Int)) := by rw [cell_of_row _ _ 0 _ _ _ S2.nb]; rfl
    have HKo : Hid (Gs w1 (W.setCell ⟨w1.heap.size + 1 + 1, 0, none⟩ (.int .i64 ((pre.length + 1 : Nat) : Int))) (.slice (some ⟨xb, xo, none⟩) xn xc) (pre.length + 1) ∧ KeepsOthers W (W.setCell ⟨w1.heap.size + 1 + 1, 0, none⟩ (.int .i64 ((pre.length + 1 : Nat) : Int))) ∧ Kt w1.heap.size W (W.setCell ⟨w1.heap.size + 1 + 1, 0, none⟩ (.int .i64 ((pre.length + 1 : Nat) : Int)))) := ⟨S2, ko, kk⟩
    have HPl : Hid ((pre ++ [x]).length = pre.length + 1) := by show _ = _; simp
    clear S2 ko kk hS cx0
    generalize pre.length = k at *
    have hk1 : ((k + 1 : Nat) : Int) = (k : Int) + 1 := by omega
    rw [hk1] at y3' y7' HKo
    have hxn : ¬ ((xn : Int) ≤ (k : Int)) := by omega
    by_cases hvy : v = (y : Int)
    · subst hvy
      by_cases hgt : k + 1 > mm
      · have hgt' : (mm : Int) < (k : Int) + 1 := by omega
        have HE : Hid (k + 1 = mm + 1) := by show _ = _; omega
        clear hk1 hv HNp tst
        gi_wp2
        exact ⟨HKo.out.2.1.from _, .inr ⟨rfl, by rw [HPl.out]; exact HKo.out.1, by rw [HPl.out]; exact HE.out⟩⟩
      · have hgt' : ¬ (mm : Int) < (k : Int) + 1 := by omega
        have HE : Hid (k + 1 ≤ mm) := by show _ ≤ _; omega
        clear hk1 hv HNp tst
        gi_wp2
        exact ⟨HKo.out.2.1.from _, HKo.out.2.2, by rw [HPl.out]; exact HKo.out.1, by rw [HPl.out]; exact HE.out⟩
    · have HNo : Hid (Npx P (pre ++ [x])) := HNp.out (by rw [hv]; intro e; injection e with e; exact hvy e)
      have hb1 : ((v : Int) == (y : Int)) = false := by simp; exact hvy
      have hb2 : ((v : Int) != (y : Int)) = true := by simp; exact hvy
      clear hk1 hv HNp HKo y3' y7'
      gi_wp2
      exact ⟨(KeepsOthers.setCell _ _ _).from _, .inl ⟨rfl, HNo.out⟩⟩
  case done =>
    rintro D xs W hD rfl ⟨hS, hlen⟩ hK
    rw [HLen.out] at hS
    have g4 := (callsIn_wide (n := 4)).2 (awake_walk W)
    have y7 : ∀ W', Kept W W' → W'.cell? ⟨w1.heap.size + 1 + 1, 0, none⟩ = some (.int .i64 (xn : Nat)) := fun W' k => by rw [cell_of_row _ _ 0 _ _ _ (k.block hS.nb)]; rfl
    have y6 : ∀ W', Kept W W' → W'.cell? ⟨w1.heap.size + 1, 0, none⟩ = some (.slice xp xn xc) := fun W' k => by rw [cell_of_row _ _ 0 _ _ _ (k.block hS.xb)]; rfl
    have HY : Hid _ := (⟨y7, y6⟩ : _ ∧ _)
    have HFin : Hid (∀ W4, Kept W W4 → _ ∧ _) := fun W4 k4 => hS.fin kw hres k4 (Nat.le_trans hle hD) hK
    clear y7 y6 hS hlen
    gi_wp2_with (refine ⟨trivial, ?_⟩; (try refine ⟨hdd _, ?_⟩); gi_at_call 8; refine g4.mono ?_; clear g4; rintro e w4 ⟨rfl, k4⟩; have c7 := HY.out.1 _ k4; have c6 := HY.out.2 _ k4; obtain ⟨d1, d2, d3, d4, d5⟩ := HFin.out w4 k4; have tst : (storeVar 4 ⟨w.heap.size + 1, 0, none⟩ (.bool true)).run Tryd.prog w4 = .ok () (w4.setCell ⟨w.heap.size + 1, 0, none⟩ (.bool true)) := (by simp [go_sem, storeVar, d1, d2]))
    refine ⟨by simp, .inl ⟨_, _, rfl, run_takeDeferred d3, ?_⟩⟩
    refine ⟨.bool true, ?_, rfl, d5⟩
    simp [results, Tryd.f5, go_sem, d4]
  case stop =>
    rintro D c pre W hD hp (⟨rfl, hno⟩ | ⟨rfl, hS, hlen⟩) hK
    · exact absurd hp hno.out
    rw [hlen] at hS
    have g4 := (callsIn_wide (n := 4)).2 (awake_walk W)
    have y7 : ∀ W', Kept W W' → W'.cell? ⟨w1.heap.size + 1 + 1, 0, none⟩ = some (.int .i64 ((mm : Int) + 1)) := fun W' k => by rw [cell_of_row _ _ 0 _ _ _ (k.block hS.nb)]; rfl
    have y6 : ∀ W', Kept W W' → W'.cell? ⟨w1.heap.size + 1, 0, none⟩ = some (.slice xp xn xc) := fun W' k => by rw [cell_of_row _ _ 0 _ _ _ (k.block hS.xb)]; rfl
    have y3 : ∀ W', Kept W W' → W'.cell? ⟨w.heap.size, 0, none⟩ = some (.int .i64 z) := fun W' k => by rw [cell_of_row _ _ 0 _ _ _ (k.block (hS.old hmost))]; rfl
    have HY : Hid _ := (⟨y7, y6, y3⟩ : _ ∧ _ ∧ _)
    have HFin : Hid (∀ W4, Kept W W4 → _ ∧ _) := fun W4 k4 => hS.fin kw hres k4 (Nat.le_trans hle hD) hK
    clear y7 y6 y3 hS hlen
    by_cases hq : (mm : Int) + 1 = (xn : Int)
    · gi_wp2_with (refine ⟨trivial, ?_⟩; (try refine ⟨hdd _, ?_⟩); gi_at_call 8; refine g4.mono ?_; clear g4; rintro e w4 ⟨rfl, k4⟩; have c7 := HY.out.1 _ k4; have c6 := HY.out.2.1 _ k4; have c3 := HY.out.2.2 _ k4; obtain ⟨d1, d2, d3, d4, d5⟩ := HFin.out w4 k4; have tst : (storeVar 4 ⟨w.heap.size + 1, 0, none⟩ (.bool true)).run Tryd.prog w4 = .ok () (w4.setCell ⟨w.heap.size + 1, 0, none⟩ (.bool true)) := (by simp [go_sem, storeVar, d1, d2]))
      refine ⟨by simp, .inl ⟨_, _, rfl, run_takeDeferred d3, ?_⟩⟩
      refine ⟨.bool true, ?_, rfl, d5⟩
      simp [results, Tryd.f5, go_sem, d4]
    · have hq2 : (((mm : Int) + 1) == (xn : Int)) = false := by simp; exact hq
      gi_wp2_with (refine ⟨trivial, ?_⟩; (try refine ⟨hdd _, ?_⟩); gi_at_call 8; refine g4.mono ?_; clear g4; rintro e w4 ⟨rfl, k4⟩; have c7 := HY.out.1 _ k4; have c6 := HY.out.2.1 _ k4; have c3 := HY.out.2.2 _ k4; obtain ⟨d1, d2, d3, d4, d5⟩ := HFin.out w4 k4; have tst : (storeVar 4 ⟨w.heap.size + 1, 0, none⟩ (.bool true)).run Tryd.prog w4 = .ok () (w4.setCell ⟨w.heap.size + 1, 0, none⟩ (.bool true)) := (by simp [go_sem, storeVar, d1, d2]))
      refine ⟨by simp, .inl ⟨_, _, rfl, run_takeDeferred d3, ?_⟩⟩
      refine ⟨.bool true, ?_, rfl, d5⟩
      simp [results, Tryd.f5, go_sem, d4]
end Go.Proofs.YtanccfbbaeocaaaDoor.Bt
