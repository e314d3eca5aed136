/- The iterator over the numbers of a set. Conditions: the library's table is laid; those that each row names. -/
import Derived.Shelf.Spec.TrailingZeros
import Derived.Test.YtanccfbbaeocaaaDoorLG
import Derived.Test.YtanccfbbaeocaaaDoorLD
import Derived.Deep.CutRange
namespace Go.Proofs.YtanccfbbaeocaaaDoor.Bt
open Go.RowKit Go.Shelf
attribute [local go_sem] Oper.semAt_some

/-- The library's table, where it is laid. -/
structure Lds (w : World) : Prop where
  tab : TabAt 0 Lib.deBruijn64tab w
theorem Lds.kept {w w' : World} (h : Lds w) (k : Kept w w') : Lds w' := ⟨fun j hj => k.cell (h.tab j hj)⟩
set_option maxHeartbeats 1000000 in
theorem tz_core (x k idx : Nat) (w : World) (hx0 : ((x : Int) == 0) = false)
    (key : IntKind.u64.wrap (bits BinOp.and IntKind.u64 (x : Int) (IntKind.u64.wrap (-(x : Int))) * 285870213051353865) / 288230376151711744 = (idx : Int))
    (hi : idx < 64) (hk : k < 64) (hcell : w.cell? ⟨0, idx, none⟩ = some (.int .u8 k)) :
    Calls Tryd.prog 39 #[.int .u64 x] w fun e w' => e = .returned (.int .i64 k) ∧ w' = w := by
  go_enter Tryd.func39, Tryd.ntmps39
  go_wp2_with (simp only [key])
  go_ret
  exact ⟨rfl, rfl⟩
theorem tz_walk (x : Nat) (hx : x < 18446744073709551616) (hx0 : x ≠ 0) (w : World) (hL : Lds w) :
    Calls Tryd.prog 39 #[.int .u64 x] w fun e w' => e = .returned (.int .i64 (Lib.ctz 64 x : Nat)) ∧ w' = w := by
  obtain ⟨hlow, hk⟩ := Lib.lowest_bit 64 x hx0 hx
  obtain ⟨hi, htab⟩ := Lib.deBruijn64_at _ hk
  have hcell := hL.tab _ hi
  rw [htab] at hcell
  exact tz_core x _ _ w (by simp; omega) (tz64_key x _ hx hx0 hlow) hi hk hcell
theorem ctz_bits (x : Nat) (hx : x < 18446744073709551616) (hx0 : x ≠ 0) : Lib.ctz 64 x < 64 ∧ x.testBit (Lib.ctz 64 x) = true ∧ ∀ i, i < Lib.ctz 64 x → x.testBit i = false := by
  unfold Lib.ctz
  rw [if_neg hx0]
  obtain ⟨m, hm, hc⟩ := Lib.ctzFrom_spec 64 x (by omega) hx
  generalize Lib.ctzFrom 64 x = c at hm hc ⊢
  subst hm
  refine ⟨hc, ?_, fun i hi => ?_⟩
  · rw [Nat.testBit_two_pow_mul]
    simp
  · rw [Nat.testBit_two_pow_mul]
    simp; omega

/-- What a round keeps: all below a block, and all sets and parts. -/
structure Kt (n₀ : Nat) (W W' : World) : Prop where
  below : Below n₀ W W'
  rows : ∀ (b : Nat) (cs : Array Value) (ty : TypeId) (fr : Nat × Nat), W.heap[b]? = some (.cells cs ty fr) → (ty = 25 ∨ ty = 55) → W'.heap[b]? = some (.cells cs ty fr)
theorem Kt.refl (n₀ : Nat) (W : World) : Kt n₀ W W := ⟨Below.refl _ _, fun _ _ _ _ h _ => h⟩
theorem Kt.trans {n₀ : Nat} {A B C : World} (h : Kt n₀ A B) (k : Kt n₀ B C) : Kt n₀ A C := ⟨h.below.trans k.below, fun b cs ty fr hb ht => k.rows b cs ty fr (h.rows b cs ty fr hb ht) ht⟩
theorem Kt.ofKept {n₀ : Nat} {A B : World} (k : Kept A B) (h : n₀ ≤ A.heap.size) : Kt n₀ A B := ⟨k.out.mono h, fun _ _ _ _ hb _ => k.block hb⟩
theorem kt_b {n₀ : Nat} {w : World} (hn : n₀ ≤ w.heap.size) (W : World) (l : Nat) (o o' : Obj) (hl : w.heap.size ≤ l) (h : W.heap[l]? = some o) (hc : o.isCells = false) (hw : o.isWalk = false) : Kt n₀ W (W.putObj l o') := by
  refine ⟨belowK_b hn W l o o' hl h hc hw, fun b cs ty fr hb _ => ?_⟩
  have hne : b ≠ l := by
    rintro rfl
    rw [h] at hb
    cases hb
    cases hc
  exact (World.putObj_heap_other hne).trans hb
/-- What the iterator has in memory. -/
structure Ai (w₀ : World) (bs : Nat) (vs : Value) (W : World) : Prop where
  kept : Kept w₀ W
  s : W.heap[bs]? = some (.cells #[vs] 25)
theorem Ai.more {w₀ : World} {bs : Nat} {vs : Value} {W W' : World} (h : Ai w₀ bs vs W) (k : Kept W W') : Ai w₀ bs vs W' := ⟨h.kept.trans k, k.block h.s⟩
theorem Ai.kt {w₀ : World} {bs : Nat} {vs : Value} {W W' : World} (h : Ai w₀ bs vs W) (k : Kt w₀.heap.size W W') : Ai w₀ bs vs W' := ⟨⟨h.kept.out.trans k.below⟩, k.rows _ _ _ _ h.s (.inl rfl)⟩
theorem cells2 {W : World} {b : Nat} {c0 c1 : Value} {t : TypeId} (h : W.heap[b]? = some (.cells #[c0, c1] t)) : W.cell? ⟨b, 0, none⟩ = some c0 ∧ W.cell? ⟨b, 1, none⟩ = some c1 :=
  ⟨by rw [cell_of_row _ b 0 _ _ _ h]; rfl, by rw [cell_of_row _ b 1 _ _ _ h]; rfl⟩
theorem nm_drop {P : List Pt} {i : Nat} {x : Pt} (h : P[i]? = some x) : nm (P.drop i) = ((bsw x.2).map fun j => x.1 * 64 + j) ++ nm (P.drop (i + 1)) := by rw [drop_at h, nm_cons]
theorem and_one_less (u : Nat) (hu : u < 18446744073709551616) (h0 : u ≠ 0) : IntKind.u64.wrap ((u : Int) - 1) = ((u - 1 : Nat) : Int) ∧ bits .and .u64 (u : Int) ((u - 1 : Nat) : Int) = ((u &&& (u - 1) : Nat) : Int) :=
  ⟨by rw [IntKind.wrap_u64]; omega, u64_and_nat u (u - 1) hu (by omega)⟩

/-- What a round leaves, whether it goes on or not. -/
structure Yp (J Jx : List Nat → World → Prop) (n₀ : Nat) (pre : List Nat) (W : World) (b : Bool) (W' : World) : Prop where
  on : b = true → J pre W' ∧ Kt n₀ W W'
  off : b = false → Jx pre W'
set_option maxRecDepth 100000 in
set_option maxHeartbeats 4000000 in
theorem all_in (n : Nat) {w₀ : World} (hL : Lds w₀) {ps : Option Addr} {ns cs : Nat} {P : List Pt} (hs : St w₀ ps ns cs P) (bs l' : Nat) (J Jx : List Nat → World → Prop)
    (W : World) (hB : Ai w₀ bs (.slice ps ns cs) W) (hJ : Hid (AbidesFrom W.heap.size J))
    (hY : Hid (∀ pre y W, y < 1048576 → J pre W → pre.length < (nm P).length → YieldAt Fence.wide (n - 1) Tryd.prog l' #[.int .i64 (y : Nat)] W fun e W' =>
      (e = .returned (.bool true) ∧ J (pre ++ [y]) W' ∧ Kt w₀.heap.size W W') ∨ (e = .returned (.bool false) ∧ Jx (pre ++ [y]) W'))) (h0 : J [] W) :
    CallsIn Fence.wide n Tryd.prog 38 #[.func (.yield l') #[] #[], .pointer (some ⟨bs, 0, none⟩)] W fun e W' => (∃ v, e = .returned v) ∧
      ((∃ ys, ys = nm P ∧ J ys W') ∨ (∃ pre, pre <+: nm P ∧ Jx pre W')) := by
  have hdd : ∀ k : Nat, (Fence.wide.depth.isSome = true → 1 ≤ k) := fun k h => by cases h
  have hmx : Tryd.prog.follows .mixedOrders = true := by kernel_rfl
  have HS : Hid (St w₀ ps ns cs P) := hs
  have HLd : Hid (Lds w₀) := hL
  have fs := hs.few
  have HL : Hid (P.length = ns) := hs.len
  have cs0 : W.cell? ⟨bs, 0, none⟩ = some (.slice ps ns cs) := by rw [cell_of_row _ bs 0 _ _ _ hB.s]; rfl
  have H0 : Hid (J [] W ∧ Ai w₀ bs (.slice ps ns cs) W ∧ [] ++ nm (P.drop 0) = nm P) := ⟨h0, hB, by simp⟩
  clear hs hB h0 hL
  refine callsIn_wide.2 ?_
  go_enter Tryd.func38, Tryd.ntmps38
  go_wp2
  go_loopg [9] ns (fun g iv wr => ∃ (i : Nat) (pre : List Nat), iv = .int .i64 (i : Nat) ∧ i ≤ ns ∧ ns - i ≤ g ∧ Hid (J pre wr ∧ Ai w₀ bs (.slice ps ns cs) wr ∧ pre ++ nm (P.drop i) = nm P))
  case atStart => exact ⟨0, [], rfl, Nat.zero_le _, by omega, H0⟩
  case round =>
    obtain ⟨i, pre, rfl, hi, hg, H⟩ := hrel
    clear H0 cs0
    by_cases hlt : i < ns
    · obtain ⟨x, hx⟩ : ∃ x, P[i]? = some x := ⟨_, List.getElem?_eq_getElem (by rw [HL.out]; omega)⟩
      obtain ⟨sb, so, rfl, d0, d1⟩ := (HS.out.kept H.out.2.1.kept).at hx
      have hok := HS.out.ok.may x (List.mem_of_getElem? hx)
      have HD : Hid (nm (P.drop i) = ((bsw x.2).map fun j => x.1 * 64 + j) ++ nm (P.drop (i + 1))) := nm_drop hx
      obtain ⟨x1, x2⟩ := x
      simp only at d0 d1 hok HD
      obtain ⟨hx1, _, hx2⟩ := hok
      clear hx
      have H1 : Hid (J pre (wr.alloc (.cells #[.int .i64 (x1 : Nat), .int .u64 (x2 : Nat)] 55)) ∧ Ai w₀ bs (.slice (some ⟨sb, so, none⟩) ns cs) (wr.alloc (.cells #[.int .i64 (x1 : Nat), .int .u64 (x2 : Nat)] 55)) ∧ (wr.alloc (.cells #[.int .i64 (x1 : Nat), .int .u64 (x2 : Nat)] 55)).heap[wr.heap.size]? = some (.cells #[.int .i64 (x1 : Nat), .int .u64 (x2 : Nat)] 55) ∧ pre ++ (((bsw x2).map fun j => x1 * 64 + j) ++ nm (P.drop (i + 1))) = nm P) :=
        ⟨hJ.out pre wr _ none H.out.1 (((Kept.refl wr).alloc _).grown none) (fun r e => by cases e), H.out.2.1.more ((Kept.refl wr).alloc _), alloc_at wr _, by rw [← HD.out]; exact H.out.2.2⟩
      clear H HD
      go_wp2
      generalize wr.heap.size = bp at *
      go_loopg [5] 64 (fun g uv wi => ∃ (u : Nat) (pre' : List Nat), uv = .int .u64 (u : Nat) ∧ u < 18446744073709551616 ∧ (bsw u).length ≤ g ∧ Hid (J pre' wi ∧ Ai w₀ bs (.slice (some ⟨sb, so, none⟩) ns cs) wi ∧ wi.heap[bp]? = some (.cells #[.int .i64 (x1 : Nat), .int .u64 (x2 : Nat)] 55) ∧ pre' ++ (((bsw u).map fun j => x1 * 64 + j) ++ nm (P.drop (i + 1))) = nm P))
      case atStart => exact ⟨x2, pre, rfl, hx2, bsw_len_le _, H1⟩
      case round =>
        obtain ⟨u, pre', rfl, hu, hgu, HI⟩ := hrel
        clear H1 d0 d1
        by_cases hu0 : u = 0
        · subst hu0
          have HO : Hid (J pre' wr ∧ Ai w₀ bs (.slice (some ⟨sb, so, none⟩) ns cs) wr ∧ pre' ++ nm (P.drop (i + 1)) = nm P) := ⟨HI.out.1, HI.out.2.1, by have := HI.out.2.2.2; rwa [bsw_zero, List.map_nil, List.nil_append] at this⟩
          clear HI hgu hu
          go_wp2
          go_roundg (ns - (i + 1))
          case measure => omega
          case rel => exact ⟨i + 1, pre', by go_num, by omega, Nat.le_refl _, HO⟩
        · obtain ⟨c64, cb, cl⟩ := ctz_bits u hu hu0
          have eb := bsw_low c64 cb cl
          have HT : Hid (∀ W', Kept wr W' → Calls Tryd.prog 39 #[.int .u64 (u : Nat)] W' fun e w' => e = .returned (.int .i64 (Lib.ctz 64 u : Nat)) ∧ w' = W') := fun W' k => tz_walk u hu hu0 W' (HLd.out.kept (HI.out.2.1.kept.trans k))
          obtain ⟨t, ht⟩ : ∃ t, t = Lib.ctz 64 u := ⟨_, rfl⟩
          rw [← ht] at HT c64 eb
          clear ht cb cl
          obtain ⟨a1, a2⟩ := and_one_less u hu hu0
          have hu2 := off_lt hu
          obtain ⟨u2, hu2q⟩ : ∃ u2, u2 = u &&& (u - 1) := ⟨_, rfl⟩
          rw [← hu2q] at a2 eb hu2
          obtain ⟨y, hy0⟩ : ∃ y, y = x1 * 64 + t := ⟨_, rfl⟩
          have hy20 : y < 1048576 := by omega
          have HE : Hid (pre' ++ ([y] ++ (((bsw u2).map fun j => x1 * 64 + j) ++ nm (P.drop (i + 1)))) = nm P) := by
            have := HI.out.2.2.2
            rw [eb, List.map_cons, ← hy0] at this
            exact this
          have HPre : Hid (pre' ++ [y] <+: nm P) := ⟨(((bsw u2).map fun j => x1 * 64 + j) ++ nm (P.drop (i + 1))), by rw [← HE.out, List.append_assoc]⟩
          have hlen : (bsw u2).length + 1 = (bsw u).length := by rw [eb]; rfl
          have HY : Hid (∀ W', Kept wr W' → YieldAt Fence.wide n Tryd.prog l' #[.int .i64 (y : Nat)] W' fun e W'' => (e = .returned (.bool true) ∧ J (pre' ++ [y]) W'' ∧ Kt w₀.heap.size W' W'') ∨ (e = .returned (.bool false) ∧ Jx (pre' ++ [y]) W'')) :=
            fun W' k => yield_any n (hY.out pre' y W' hy20 (hJ.out pre' wr _ none HI.out.1 (k.grown none) (fun r e => by cases e)) (by have := congrArg List.length HE.out; simp at this; omega))
          have e1 : (x1 : Int) * 64 = ((x1 * 64 : Nat) : Int) := by push_cast; rfl
          have e2 : (((x1 * 64 : Nat) : Int)) + (t : Int) = (y : Int) := by rw [hy0]; push_cast; rfl
          have hx64 : x1 * 64 < 1048576 := by omega
          generalize x1 * 64 = x64 at e1 e2 hx64
          obtain ⟨p0, p1⟩ := cells2 HI.out.2.2.1
          have q0 : ∀ W', Kept wr W' → W'.cell? ⟨bp, 0, none⟩ = some (.int .i64 (x1 : Nat)) := fun W' k => k.cell p0
          have q1 := q0 _ (Kept.refl wr).drew
          have v1 : IntKind.i64.wrap (x64 : Int) = (x64 : Int) := by rw [IntKind.wrap_i64]; omega
          have v2 : IntKind.i64.wrap ((x64 : Int) + (t : Int)) = (y : Int) := by rw [IntKind.wrap_i64, e2]; omega
          obtain ⟨fn, tmps, assign, body, hy, hR⟩ := HY.out _ (Kept.refl wr).drew
          have hR2 : RoundIn Fence.wide n Tryd.prog l' fn tmps assign body wr.drew fun e W3 => ∃ bb, e = .returned (.bool bb) ∧ Yp J Jx w₀.heap.size (pre' ++ [y]) wr.drew bb W3 := hR.mono fun e W3 h => by
            rcases h with ⟨rfl, h1, h2⟩ | ⟨rfl, h1⟩
            · exact ⟨true, rfl, ⟨fun _ => ⟨h1, h2⟩, fun e => (by cases e)⟩⟩
            · exact ⟨false, rfl, ⟨fun e => (by cases e), fun _ => h1⟩⟩
          clear eb hu2q hy0 e2 hR
          go_upto_region 6 with fail
          refine (wpIn_wide (n := n + 1)).1 ?_
          gi_region_with_o (first
            | (refine ⟨trivial, ?_⟩; (try refine ⟨hdd _, ?_⟩); gi_at_call 39; refine ((callsIn_wide (n := n)).2 (HT.out _ (by first | exact Kept.refl _ | exact (Kept.refl _).drew))).mono ?_; rintro e w' ⟨rfl, hw'⟩; rw [hw']; clear hw')
            | ((try refine ⟨hdd _, ?_⟩); (with_reducible refine hR2.mono ?_); rintro e W3 ⟨bb, rfl, hYp⟩))
          all_goals (cases bb with
            | false =>
              have hx3 := hYp.off rfl
              clear hYp
              gi_wp2
              go_wp2
              refine bodyPost_ret (results_none rfl _ _ _) rfl ?_
              exact ⟨⟨_, rfl⟩, .inr ⟨_, HPre.out, hx3⟩⟩
            | true =>
              obtain ⟨hJ3, hk3⟩ := hYp.on rfl
              clear hYp
              gi_wp2
              go_wp2
              go_roundg ((bsw u2).length)
              case measure => omega
              case rel => exact ⟨u2, pre' ++ [y], by go_num, hu2, Nat.le_refl _, ⟨hJ3, (HI.out.2.1.more (Kept.refl wr).drew).kt hk3, hk3.rows _ _ _ _ ((Kept.refl wr).drew.block HI.out.2.2.1) (.inr rfl), by rw [List.append_assoc]; exact HE.out⟩⟩)
    · obtain rfl : i = ns := by omega
      have he : pre = nm P := by
        have := H.out.2.2
        rwa [List.drop_of_length_le (by rw [HL.out]; exact Nat.le_refl _), show nm [] = [] from rfl, List.append_nil] at this
      have hj1 := H.out.1
      clear H
      go_wp2
      go_end0
      exact ⟨⟨_, rfl⟩, .inl ⟨pre, he, hj1⟩⟩
/-- A number as it is handed over; whatever is named is made one that may be. -/
def enq (y : Nat) : Array Value := #[.int .i64 ((y % 1048576 : Nat) : Int)]
theorem all_stops (n : Nat) {w₀ w : World} (hL : Lds w₀) {ps : Option Addr} {ns cs : Nat} {P : List Pt} (hs : St w₀ ps ns cs P) (hw : Kept w₀ w) (bs : Nat) (h1 : w.heap[bs]? = some (.cells #[.slice ps ns cs] 25)) :
    SeqStopsK Fence.wide n Tryd.prog 38 #[.pointer (some ⟨bs, 0, none⟩)] enq (Kt w₀.heap.size) (fun ys => ys = nm P) (fun pre => pre <+: nm P) (nm P).length w := fun l' J Jx W hW hJ _ hY h0 => by
  have kW : Kept w W := ⟨hW⟩
  exact all_in n hL hs bs l' J Jx W ⟨hw.trans kW, kW.block h1⟩ hJ (fun pre y W hy hj hl => by
    have h := hY pre y W hj hl
    unfold enq at h
    rw [Nat.mod_eq_of_lt hy] at h
    exact h) h0
theorem all_walk (n : Nat) (v : Value) (w : World) : CallsIn Fence.wide n Tryd.prog 22 #[.agg #[v]] w fun e w' => e = .returned (.func (.func 38) #[] #[.pointer (some ⟨w.heap.size, 0, none⟩)]) ∧ w' = w.alloc (.cells #[v] 25) := by
  refine callsIn_wide.2 ?_
  go_enter Tryd.func22, Tryd.ntmps22
  go_wp2
  go_ret
  exact ⟨rfl, rfl⟩
end Go.Proofs.YtanccfbbaeocaaaDoor.Bt
