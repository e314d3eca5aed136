/- The walk of merge. Conditions: those that each row names. -/
import Derived.Shelf.AbstractIn
import Derived.Laws.EntriesVeiled
import Derived.Test.YtanccfbbaeocaaaLF
namespace Go.Proofs.Ytanccfbbaeocaaa.Bt
open Go.RowKit Go.Shelf
attribute [local go_sem] Oper.semAt_some

theorem results_one {P : Program} {fn : Func} {p : Tmp} {ty : TypeId} (h : fn.results = #[.cell p ty]) (tmps : Array Value) (w : World) (g : Nat) (t : TypeId) (cs : Array Value) (fr : Nat × Nat) (d : TypeDesc)
    (hp : tmps.getD p undef = .pointer (some ⟨g, 0, none⟩)) (hg : w.heap[g]? = some (.cells cs t fr))
    (hu : P.underlying ty = some d) (hd : (match d with | .struct _ | .array _ _ => true | _ => false) = true) (hi : (P.info? ty).map (·.size) = some cs.size) :
    (results fn tmps).run P w = .ok (.agg cs) w := by
  have e : (results fn tmps).run P w = ((asAddr (tmps.getD p undef)).run P w).andThen fun a w₁ => (loadVar ty a).run P w₁ := by
    simp only [results, h]
    simp [Sem.run_bind, Result.andThen]
  rw [e, hp]
  simp [asAddr, run_loadVar_row w g t ty cs fr d hg hu hd hi]
theorem seven_new (w : World) (a b c d e f g : Obj) {W0 : World} (h : ((((((w.alloc a).alloc b).alloc c).alloc d).alloc e).alloc f).alloc g = W0) :
    Kept w W0 ∧ W0.heap.size = w.heap.size + 7 ∧ W0.heap[w.heap.size + 1 + 1]? = some c ∧ W0.heap[w.heap.size + 1 + 1 + 1]? = some d ∧ W0.heap[w.heap.size + 1 + 1 + 1 + 1]? = some e ∧ W0.heap[w.heap.size + 1 + 1 + 1 + 1 + 1]? = some f ∧ W0.heap[w.heap.size + 1 + 1 + 1 + 1 + 1 + 1]? = some g := by
  subst h
  refine ⟨(((((((Kept.refl w).alloc _).alloc _).alloc _).alloc _).alloc _).alloc _).alloc _, by simp only [size_alloc], ?_, ?_, ?_, ?_, ?_⟩
  · exact (((((Kept.refl _).alloc _).alloc _).alloc _).alloc _).block (by have := alloc_at ((w.alloc a).alloc b) c; rwa [size_alloc, size_alloc] at this)
  · exact ((((Kept.refl _).alloc _).alloc _).alloc _).block (by have := alloc_at (((w.alloc a).alloc b).alloc c) d; rwa [size_alloc, size_alloc, size_alloc] at this)
  · exact (((Kept.refl _).alloc _).alloc _).block (by have := alloc_at ((((w.alloc a).alloc b).alloc c).alloc d) e; rwa [size_alloc, size_alloc, size_alloc, size_alloc] at this)
  · exact ((Kept.refl _).alloc _).block (by have := alloc_at (((((w.alloc a).alloc b).alloc c).alloc d).alloc e) f; rwa [size_alloc, size_alloc, size_alloc, size_alloc, size_alloc] at this)
  · have := alloc_at ((((((w.alloc a).alloc b).alloc c).alloc d).alloc e).alloc f) g; rwa [size_alloc, size_alloc, size_alloc, size_alloc, size_alloc, size_alloc] at this
theorem besidein (n : Nat) (u v : Value) (w : World) : CallsIn Fence.wide n Try.prog 46 #[.agg #[u], .agg #[v]] w fun e w' => e = .returned (.func (.func 58) #[] #[.pointer (some ⟨w.heap.size, 0, none⟩), .pointer (some ⟨w.heap.size + 1, 0, none⟩)]) ∧ w' = (w.alloc (.cells #[u] 25)).alloc (.cells #[v] 25) :=
  callsIn_wide.2 (beside_walk u v w)

/-- A set in a row of its own, from a block on. -/
structure So (w : World) (B : Nat) (p : Option Addr) (n c : Nat) (P : List Pt) : Prop where
  own : Own w B 42 2 p n c (pc P)
  ok : Okp P
theorem So.st {w : World} {B : Nat} {p : Option Addr} {n c : Nat} {P : List Pt} (h : So w B p n c P) : St w p n c P := ⟨h.own.rw, h.ok⟩
theorem So.kept {w w' : World} {B : Nat} {p : Option Addr} {n c : Nat} {P : List Pt} (h : So w B p n c P) (k : Kept w w') : So w' B p n c P := ⟨h.own.kept k, h.ok⟩
theorem So.mono {w : World} {B B' : Nat} {p : Option Addr} {n c : Nat} {P : List Pt} (h : So w B p n c P) (k : B' ≤ B) : So w B' p n c P := ⟨h.own.mono k, h.ok⟩
theorem own_set {w : World} {B : Nat} {e : TypeId} {sz : Nat} {p : Option Addr} {n c : Nat} {cs : List Value} (h : Own w B e sz p n c cs) {b : Nat} (hb : b < B) (i : Nat) (u : Value) : Own (w.setCell ⟨b, i, none⟩ u) B e sz p n c cs :=
  ⟨h.out.1, h.out.2.imp id fun ⟨g, cap, cur, a, b', hg, r⟩ => ⟨g, cap, cur, a, b', (heap_setCell_other _ ⟨b, i, none⟩ g _ (by show g ≠ b; omega)).trans hg, r⟩⟩
theorem So.set {w : World} {B : Nat} {p : Option Addr} {n c : Nat} {P : List Pt} (h : So w B p n c P) {b : Nat} (hb : b < B) (i : Nat) (u : Value) : So (w.setCell ⟨b, i, none⟩ u) B p n c P := ⟨own_set h.own hb i u, h.ok⟩
theorem Mg.fin {w W : World} {fv : Value} {q : Option Addr} {c : Nat} {G : List Pt} (h : Mg w W fv q c G) (ok : Okp G) {D : Nat} (hD : w.heap.size + 7 ≤ D) (hK : W.heap[D]? = some (.deferred (some []))) :
    (W.setCell ⟨w.heap.size + 1 + 1 + 1, 0, none⟩ (.slice q G.length c)).heap[D]? = some (.deferred (some [])) ∧
    ((W.setCell ⟨w.heap.size + 1 + 1 + 1, 0, none⟩ (.slice q G.length c)).putObj D (.deferred none)).heap[w.heap.size + 1 + 1 + 1]? = some (.cells #[.slice q G.length c] 25) ∧
    So ((W.setCell ⟨w.heap.size + 1 + 1 + 1, 0, none⟩ (.slice q G.length c)).putObj D (.deferred none)) w.heap.size q G.length c G ∧
    Kept w ((W.setCell ⟨w.heap.size + 1 + 1 + 1, 0, none⟩ (.slice q G.length c)).putObj D (.deferred none)) := by
  have hK2 : (W.setCell ⟨w.heap.size + 1 + 1 + 1, 0, none⟩ (.slice q G.length c)).heap[D]? = some (.deferred (some [])) := (heap_setCell_other _ ⟨w.heap.size + 1 + 1 + 1, 0, none⟩ D _ (by show D ≠ w.heap.size + 1 + 1 + 1; omega)).trans hK
  have hs : (W.setCell ⟨w.heap.size + 1 + 1 + 1, 0, none⟩ (.slice q G.length c)).heap[w.heap.size + 1 + 1 + 1]? = some (.cells #[.slice q G.length c] 25) := by rw [heap_setCell_same _ _ 0 _ _ _ h.br]; rfl
  have hg := grownBy_putObj' (W.setCell ⟨w.heap.size + 1 + 1 + 1, 0, none⟩ (.slice q G.length c)) D (.deferred none)
  have hr : ∀ r, some D = some r → ∃ o : Obj, (W.setCell ⟨w.heap.size + 1 + 1 + 1, 0, none⟩ (.slice q G.length c)).heap[r]? = some o ∧ o.isCells = false := fun r e => by cases e; exact ⟨_, hK2, rfl⟩
  have lw : Below w.heap.size w (W.setCell ⟨w.heap.size + 1 + 1 + 1, 0, none⟩ (.slice q G.length c)) := h.low.setCell (by show w.heap.size ≤ w.heap.size + 1 + 1 + 1; omega) _
  exact ⟨hK2, cells_stay hg hr hs, ⟨(own_stay hg hr (own_set h.own (by omega) 0 _)).mono (by omega), ok⟩, ⟨below_stay (B := w.heap.size) lw (Nat.le_refl _) hg (fun r e => by cases e; omega) (Nat.le_refl _)⟩⟩
set_option maxRecDepth 100000 in
set_option maxHeartbeats 4000000 in
theorem merge_walk {w : World} {ps : Option Addr} {ns cs : Nat} {P : List Pt} {pt : Option Addr} {nt ct : Nat} {Q : List Pt} (hs : St w ps ns cs P) (ht : St w pt nt ct Q) (g : Nat) (f : Nat → Nat → Nat) (hf : ∀ a b, a < 18446744073709551616 → b < 18446744073709551616 → f a b < 18446744073709551616)
    (eg : ∀ args w, (callFunc g args).run Try.prog w = .ok (.enter g args) w)
    (hg : Hid (∀ a b W, a < 18446744073709551616 → b < 18446744073709551616 → Calls Try.prog g #[.int .u64 (a : Nat), .int .u64 (b : Nat)] W fun e w' => e = .returned (.int .u64 (f a b : Nat)) ∧ w' = W)) :
    Calls Try.prog 39 #[.agg #[.slice ps ns cs], .agg #[.slice pt nt ct], .func (.func g) #[] #[]] w fun e w' => ∃ q n c, e = .returned (.agg #[.slice q n c]) ∧ So w' w.heap.size q n c (mrg f P Q) ∧ Kept w w' := by
  obtain ⟨i0, hi0, hz0, hz1, hz2⟩ := info_parts info42
  have HL : Hid ((bes P Q).length ≤ 32768) := by have := bes_len P Q; have := hs.len; have := ht.len; have := hs.few; have := ht.few; show _ ≤ _; omega
  refine (callsIn_wide (n := 5)).1 ?_
  have hdd : ∀ k : Nat, (Fence.wide.depth.isSome = true → 1 ≤ k) := fun k h => by cases h
  refine callsIn_of_wp_marks Try.func39 rfl trivial ?_ rfl
  simp only [Try.ntmps39, List.size_toArray, List.length_cons, List.length_nil, Nat.reduceAdd, Nat.reduceSub, Array.replicate_succ, Array.replicate_zero, List.push_toArray, List.append_toArray, List.nil_append, List.cons_append]
  gi_wp2_with (refine ⟨trivial, ?_⟩; (try refine ⟨hdd _, ?_⟩); gi_at_call 46; refine (besidein _ _ _ _).mono ?_; rintro e w' ⟨rfl, rfl⟩)
  obtain ⟨W0, hW0⟩ : ∃ W0, ((((((w.alloc (.cells #[.slice ps ns cs] 25)).alloc (.cells #[.slice pt nt ct] 25)).alloc (.cells #[.func (.func g) #[] #[]] 71)).alloc (.cells #[.slice none 0 0] 25)).alloc (.cells #[.slice none 0 0] 25)).alloc (.cells #[.slice ps ns cs] 25)).alloc (.cells #[.slice pt nt ct] 25) = W0 := ⟨_, rfl⟩
  obtain ⟨kW, hsz, b2, b3, b4, b5, b6⟩ := seven_new w _ _ _ _ _ _ _ hW0
  rw [hW0]
  clear hW0
  have R0 : Mg w W0 (.func (.func g) #[] #[]) none 0 (tks f []) := ⟨b2, b3, b4, own_nil _ _ _ _, kW.out, by omega⟩
  have hle : w.heap.size ≤ W0.heap.size := kW.size
  have hle7 : w.heap.size + 7 ≤ W0.heap.size := by omega
  have hst := beside_stops 4 hs ht kW (w.heap.size + 7) (w.heap.size + 1 + 1 + 1 + 1) (w.heap.size + 1 + 1 + 1 + 1 + 1) (w.heap.size + 1 + 1 + 1 + 1 + 1 + 1) (by omega) b5 b6 (by omega) (by omega)
  have HM : Hid (tks f (bes P Q) = mrg f P Q ∧ Okp (mrg f P Q)) := ⟨tks_mrg f hs.ok ht.ok, mrg_ok hf hs.ok ht.ok⟩
  clear b2 b3 b4 b5 b6 hs ht
  refine wpIn_rangeFunc_ownH rfl (by omega) (gf := 58) (lb := #[.pointer (some ⟨w.heap.size + 1 + 1 + 1 + 1 + 1, 0, none⟩), .pointer (some ⟨w.heap.size + 1 + 1 + 1 + 1 + 1 + 1, 0, none⟩)]) rfl trivial (enters_of Try.func58 (by kernel_rfl) rfl)
    hst (fun h k => h.trans k) (kb_b hle hle7) (Below.refl _ _) (fun _ => rfl)
    (fun pre W => ∃ q c, Mg w W (.func (.func g) #[] #[]) q c (tks f pre))
    (fun c pre W => False)
    (fun pre W W' row hs hg hr => by obtain ⟨q, c, h⟩ := hs; exact ⟨q, c, h.stay hg hr hle⟩)
    (fun c pre W W' row hs hg hr => hs)
    ⟨none, 0, R0⟩
    (fun x a' W => ∃ Bx, W.heap[Bx]? = some (.cells #[.int .i64 ((md x).1 : Nat), .int .u64 ((md x).2.1 : Nat), .int .u64 ((md x).2.2 : Nat)] 80) ∧ a' = { tmps := #[.agg #[.slice ps ns cs], .agg #[.slice pt nt ct], .func (.func g) #[] #[], .pointer (some ⟨w.heap.size, 0, none⟩), .pointer (some ⟨w.heap.size + 1, 0, none⟩), .pointer (some ⟨w.heap.size + 1 + 1, 0, none⟩), .pointer (some ⟨w.heap.size + 1 + 1 + 1, 0, none⟩), .pointer (some ⟨w.heap.size + 1 + 1 + 1 + 1, 0, none⟩), .pointer (some ⟨Bx, 0, none⟩), undef, .agg #[.slice ps ns cs], .agg #[.slice pt nt ct], .func (.func 58) #[] #[.pointer (some ⟨w.heap.size + 1 + 1 + 1 + 1 + 1, 0, none⟩), .pointer (some ⟨w.heap.size + 1 + 1 + 1 + 1 + 1 + 1, 0, none⟩)], .agg #[.int .i64 ((md x).1 : Nat), .int .u64 ((md x).2.1 : Nat), .int .u64 ((md x).2.2 : Nat)], undef, undef, undef, undef, undef, undef, undef, undef, undef, undef, undef, undef, undef, undef, undef, undef, undef, undef], defers := [] })
    (fun x a' u W W' row hs hg hr => by obtain ⟨Bx, h, e⟩ := hs; exact ⟨Bx, cells_stay hg (fun r e => (hr r e).2) h, e⟩)
    ?assign ?body ?done ?stop
  case assign =>
    rintro l' pre x W K ⟨q, c, hR⟩ hK
    have sm := md_sm x
    have ka : Kept W (W.alloc (.cells #[.int .i64 ((md x).1 : Nat), .int .u64 ((md x).2.1 : Nat), .int .u64 ((md x).2.2 : Nat)] 80)) := (Kept.refl W).alloc _
    have hK2 := fun a' => hK a' (W.alloc (.cells #[.int .i64 ((md x).1 : Nat), .int .u64 ((md x).2.1 : Nat), .int .u64 ((md x).2.2 : Nat)] 80)) ((KeepsOthers.alloc W _).from _) (Kb.ofKept ka hR.low.size hR.big) ⟨q, c, hR.kept ka⟩
    have hX := alloc_at W (.cells #[.int .i64 ((md x).1 : Nat), .int .u64 ((md x).2.1 : Nat), .int .u64 ((md x).2.2 : Nat)] 80)
    clear hK
    dsimp only [enp]
    gi_wp2
    all_goals exact ⟨_, hX, rfl⟩
  case body =>
    rintro l' pre x a' W hl' _ ⟨q, c, hR⟩ ⟨Bx, hX, rfl⟩ hlen
    have sm := md_sm x
    obtain ⟨m0, m1, m2, hm⟩ : ∃ m0 m1 m2, md x = (m0, m1, m2) := ⟨_, _, _, rfl⟩
    have HMx : Hid (md x = (m0, m1, m2)) := hm
    rw [hm] at hX sm
    rw [hm]
    clear hm
    obtain ⟨x0, x1, x2⟩ := cells3 hX
    obtain ⟨s0, s1, s2⟩ := sm
    simp only at s0 s1 s2 x0 x1 x2
    have y2 : W.cell? ⟨w.heap.size + 1 + 1, 0, none⟩ = some (.func (.func g) #[] #[]) := by rw [cell_of_row _ _ 0 _ _ _ hR.bk]; rfl
    have y4 : W.cell? ⟨w.heap.size + 1 + 1 + 1 + 1, 0, none⟩ = some (.slice q (tks f pre).length c) := by rw [cell_of_row _ _ 0 _ _ _ hR.bm]; rfl
    have hgg := ((callsIn_wide (n := 2)).2 (hg.out m1 m2 W s1 s2)).inRound l'
    have hv := hf m1 m2 s1 s2
    obtain ⟨v, hvq⟩ : ∃ v, v = f m1 m2 := ⟨_, rfl⟩
    rw [← hvq] at hgg hv
    have hTl : (tks f pre).length ≤ 32768 := by have := tks_len f pre; have := HL.out; omega
    by_cases h0 : v = 0
    · have HN : Hid (tks f (pre ++ [x]) = tks f pre) := by show _ = _; rw [tks_snoc, tkm_none HMx.out (hvq.symm.trans h0), List.append_nil]
      subst h0
      clear hvq
      gi_wp2_with (refine ⟨trivial, ?_⟩; (try refine ⟨hdd _, ?_⟩); gi_at_fn g; refine hgg.mono ?_; rintro e w' ⟨rfl, hw'⟩; rw [hw']; clear hw')
      exact ⟨KeepsFrom.refl _ _, Kb.refl _ _ _ _, q, c, by rw [HN.out]; exact hR⟩
    · have HN : Hid (tks f (pre ++ [x]) = tks f pre ++ [(m0, v)]) := by show _ = _; rw [tks_snoc, tkm_some HMx.out hvq h0]
      clear hvq
      generalize hG : tks f pre = G at *
      clear hG
      have ka : Kept W (W.alloc (.cells #[.int .i64 (m0 : Nat), .int .u64 (v : Nat)] 42)) := (Kept.refl W).alloc _
      have OA := (hR.kept ka).own
      have hz4 := part_cells W (m0, v) 42
      have hBE : w.heap.size + 7 ≤ (W.alloc (.cells #[.int .i64 (m0 : Nat), .int .u64 (v : Nat)] 42)).heap.size := Nat.le_trans hR.big ka.size
      have hv0 : ¬ ((v : Int) = 0) := by omega
      gi_wp2_with (first
        | (refine ⟨trivial, ?_⟩; (try refine ⟨hdd _, ?_⟩); gi_at_fn g; refine hgg.mono ?_; rintro e w' ⟨rfl, hw'⟩; rw [hw']; clear hw')
        | (gi_at_builtin; refine wpListIn_append_own _ rfl _ _ 23 rfl (w.heap.size + 7) 42 i0 _ 2 16 Try.underlying23 hi0 hz0 hz1 hz2 rfl (by decide) (.slice q G.length c) G.length (pc G) rfl OA.out ⟨W.heap.size, 0, none⟩ 1 1 (pc1 (m0, v)) rfl rfl hz4 (pc1_one (m0, v)) (by unfold maxLen; omega) (by omega) hBE ?_; intro v' w1 o1 g1 _; obtain ⟨q1, c1, rfl⟩ := shape_of o1; obtain ⟨p1, R1, ko, kq⟩ := hR.more o1 g1; have z0 : w1.cell? ⟨w.heap.size + 1 + 1 + 1 + 1, 0, none⟩ = some (.slice q G.length c) := (by rw [cell_of_row _ _ 0 _ _ _ p1]; rfl); have z1 : w1.frozen? ⟨w.heap.size + 1 + 1 + 1 + 1, 0, none⟩ = false := frozen_of_row _ _ 0 _ _ p1; clear o1 g1 p1))
      exact ⟨ko.from _, kq, q1, c1, by rw [HN.out]; exact R1⟩
  case done =>
    rintro D xs W hD rfl ⟨q, c, hR⟩ hK
    rw [HM.out.1] at hR
    have y4 : W.cell? ⟨w.heap.size + 1 + 1 + 1 + 1, 0, none⟩ = some (.slice q (mrg f P Q).length c) := by rw [cell_of_row _ _ 0 _ _ _ hR.bm]; rfl
    have y3 : W.cell? ⟨w.heap.size + 1 + 1 + 1, 0, none⟩ = some (.slice none 0 0) := by rw [cell_of_row _ _ 0 _ _ _ hR.br]; rfl
    have z3 : W.frozen? ⟨w.heap.size + 1 + 1 + 1, 0, none⟩ = false := frozen_of_row _ _ 0 _ _ hR.br
    have hok := HM.out.2
    obtain ⟨f1, f2, f3, f4⟩ := hR.fin hok (by omega) hK
    obtain ⟨G, hG⟩ : ∃ G, G = mrg f P Q := ⟨_, rfl⟩
    have HF : Hid (So _ _ _ _ _ (mrg f P Q) ∧ Kept _ _) := ⟨f3, f4⟩
    have HG : Hid (G = mrg f P Q) := hG
    clear hok hR HM f3 f4
    rw [← hG] at HF y4 f1 f2
    clear hG
    gi_wp2
    refine ⟨by simp, .inl ⟨_, _, rfl, run_takeDeferred f1, ?_⟩⟩
    refine ⟨_, results_one (p := 6) (ty := 25) rfl _ _ (w.heap.size + 1 + 1 + 1) 25 _ (0, 0) _ rfl f2 Try.underlying25 rfl size25, q, G.length, c, rfl, ?_⟩
    rw [← HG.out]
    exact HF.out
  case stop =>
    rintro D c pre W hD hp hf hK
    exact hf.elim
theorem three_set {w w1 : World} {o1 o2 : Obj} {u : Value} {t : TypeId} (k : Kept (((w.alloc o1).alloc o2).alloc (.cells #[u] t)) w1) : w1.heap[w.heap.size + 1 + 1]? = some (.cells #[u] t) :=
  k.block (by have := alloc_at ((w.alloc o1).alloc o2) (.cells #[u] t); rwa [size_alloc, size_alloc] at this)

set_option maxHeartbeats 1000000 in
theorem or_walk {w : World} {ps : Option Addr} {ns cs : Nat} {P : List Pt} {pt : Option Addr} {nt ct : Nat} {Q : List Pt} (hs : St w ps ns cs P) (ht : St w pt nt ct Q) :
    Calls Try.prog 25 #[.agg #[.slice ps ns cs], .agg #[.slice pt nt ct]] w fun e w' => ∃ q n c, e = .returned (.agg #[.slice q n c]) ∧ So w' w.heap.size q n c (mrg orf P Q) ∧ Kept w w' := by
  have k3 : Kept w (((w.alloc (.cells #[.slice ps ns cs] 25)).alloc (.cells #[.slice pt nt ct] 25)).alloc (.cells #[.slice none 0 0] 25)) := ((Kept.refl w).alloc _).alloc _ |>.alloc _
  have hm := merge_walk (hs.kept k3) (ht.kept k3) 40 orf orf_lt (enters_of Try.func40 (by kernel_rfl) rfl) (fun a b W ha hb => orf_walk a b ha hb W)
  rw [size_alloc, size_alloc, size_alloc] at hm
  generalize mrg orf P Q = G at *
  clear hs ht
  go_enter Try.func25, Try.ntmps25
  go_wp2_with (go_at_call 39; refine hm.mono ?_; rintro e w1 ⟨q, n, c, rfl, S1, k1⟩; have b3 := three_set k1; have y3 : w1.cell? ⟨w.heap.size + 1 + 1, 0, none⟩ = some (.slice none 0 0) := (by rw [cell_of_row _ _ 0 _ _ _ b3]; rfl); have z3 : w1.frozen? ⟨w.heap.size + 1 + 1, 0, none⟩ = false := frozen_of_row _ _ 0 _ _ b3; have HF : Hid (So (w1.setCell ⟨w.heap.size + 1 + 1, 0, none⟩ (.slice q n c)) w.heap.size q n c G ∧ Kept w (w1.setCell ⟨w.heap.size + 1 + 1, 0, none⟩ (.slice q n c))) := ⟨(S1.set (by omega) 0 _).mono (by omega), (k3.trans k1).setCell (by show w.heap.size ≤ w.heap.size + 1 + 1; omega) _⟩; have f2 : (w1.setCell ⟨w.heap.size + 1 + 1, 0, none⟩ (.slice q n c)).heap[w.heap.size + 1 + 1]? = some (.cells #[.slice q n c] 25) := (by rw [heap_setCell_same _ _ 0 _ _ _ b3]; rfl); clear S1 k1)
  refine bodyPost_ret (v := .agg #[.slice q n c]) ?_ rfl ⟨q, n, c, rfl, HF.out⟩
  exact results_one (p := 4) (ty := 25) rfl _ _ (w.heap.size + 1 + 1) 25 _ (0, 0) _ rfl f2 Try.underlying25 rfl size25

end Go.Proofs.Ytanccfbbaeocaaa.Bt
