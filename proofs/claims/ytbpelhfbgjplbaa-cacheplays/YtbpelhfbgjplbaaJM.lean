/- The walk of hold. Conditions: those that each row names. -/
import Derived.Test.YtbpelhfbgjplbaaJL
namespace Go.Proofs.Ytbpelhfbgjplbaa.Ca
open Go.ChangeShapes Go.WideShapes Go.ChangeAt Go.RowKit
open N (Kept)
open Q (kept_cell Kv Vn Km m_get m_put m_del)
variable {E : Nat → Prop} {X : List En}

theorem CM.loose {w : World} {B p n : Nat} {q : Cc} {es : List En} {x : En} {f : ByteArray → Option ByteArray} (h : CM E X w B p q es n f) (lo : Lo X w q.e es x) : CM E (x :: X) w B p q es n f :=
  ⟨h.cb, lo.more, h.hm, h.cm, h.kv, h.kn, h.sz, h.ne, h.bd, h.le, h.base⟩
theorem CM.tight {w : World} {B p n : Nat} {q : Cc} {es : List En} {x : En} {f : ByteArray → Option ByteArray} (h : CM E (x :: X) w B p q es n f) : CM E X w B p q es n f := by
  obtain ⟨G, h1, h2, h3⟩ := h.hs.out
  exact ⟨h.cb, ⟨G, h1, h2, ⟨fun y hy => h3.out y (List.mem_cons_of_mem _ hy)⟩⟩, h.hm, h.cm, h.kv, h.kn, h.sz, h.ne, h.bd, h.le, h.base⟩

/-- Behind the store of one more: it is not on the ring yet. -/
structure Add (E : Nat → Prop) (X : List En) (w w2 : World) (B p : Nat) (q : Cc) (es : List En) (x : En) (n : Nat) (f : ByteArray → Option ByteArray) : Prop where
  cb : CB w2 p q
  lo : Lo X w2 q.e es x
  hm : MP w2 q.mh (hmap (es ++ [x])) (es ++ [x]).length
  cm : MP w2 q.mc (cmap (es ++ [x])) (cnt (es ++ [x]))
  kv : Kv E w2 B q.b n f
  kn : Nk (es ++ [x])
  base : B ≤ w2.heap.size
  vc : Vc E B w w2
theorem perm_snoc (es : List En) (x : En) : (x :: es).Perm (es ++ [x]) := List.perm_append_comm (l₁ := [x]) (l₂ := es)
theorem CM.add {w : World} {B p n : Nat} {q : Cc} {es : List En} {x : En} {f : ByteArray → Option ByteArray} (h : CM E (x :: X) w B p q es n f) (hX : ∀ y ∈ X, y.b ≠ x.b) (hk : ∀ y ∈ es, y.k ≠ x.k) (hs : x.k.size ≤ 64) (hd : x.d = false) (hl : es.length ≤ 1000) :
    (w.cell? ⟨p, 2, none⟩ = some (.map (some q.mh)) ∧ w.cell? ⟨x.b, 0, none⟩ = some (.string x.k)) ∧ ∃ w2, (Instr.mapUpdate 57 (.map (some q.mh)) (.string x.k) (.pointer (some ⟨x.b, 0, none⟩))).run Try.prog w.drew = .ok () w2 ∧
      Add E X w w2 B p q es x n f ∧ (w2.cell? ⟨p, 2, none⟩ = some (.map (some q.mh)) ∧ w2.cell? ⟨x.b, 0, none⟩ = some (.string x.k)) := by
  have lo := h.hs.less hX
  refine ⟨⟨h.cb.c.2.2.1, lo.c0⟩, ?_⟩
  have kd : Kept w w.drew := (Kept.refl _).drew
  have k0 := h.kept kd
  obtain ⟨w2, r, m2, o⟩ := k0.hm.store (by omega) x.k hs x.b
  have hnk : Nk (x :: es) := List.nodup_cons.2 ⟨fun hm => (by obtain ⟨y, hy, e⟩ := List.mem_map.1 hm; exact hk y hy e), h.kn⟩
  have lo2 := (lo.ky (.kept kd)).ky (o.ky k0.hm nI)
  have cb2 := k0.cb.ky (o.ky k0.hm nC)
  refine ⟨w2, r, ⟨cb2, lo2, ?_, ?_, Kv.ky k0.kv (o.ky k0.hm nV), hnk.perm (perm_snoc es x), ?_, ?_⟩, cb2.c.2.2.1, lo2.c0⟩
  · have e1 : (es ++ [x]).length = if (hmap es x.k).isSome then es.length else es.length + 1 := by
      rw [hmap_none.2 hk]; simp
    rw [e1]
    refine m2.congr fun k => ?_
    rw [hmap_perm hnk (perm_snoc es x), add_hmap]
  · rw [cnt_perm (perm_snoc es x), add_cnt es hd]
    refine (k0.cm.same (o.block _ h.ne.symm)).congr fun k => ?_
    rw [cmap_perm hnk (perm_snoc es x), add_cmap es hd]
  · rw [o.size]; exact k0.base
  · exact (Vc.of kd h.base).trans (o.vc k0.hm h.le.2.1)
theorem Add.fin {w w2 w3 : World} {B p n : Nat} {q : Cc} {es : List En} {x : En} {f : ByteArray → Option ByteArray} (a : Add E X w w2 B p q es x n f) (h : CM E (x :: X) w B p q es n f) (hs : x.k.size ≤ 64) (hB : B ≤ x.b) (h3 : Hs X w3 q.e (es ++ [x])) (fi : Fi B w2 w3) :
    CM E X w3 B p q (es ++ [x]) n f ∧ Vc E B w w3 := by
  refine ⟨⟨a.cb.ky fi.kC, h3, a.hm.ky fi.kM, a.cm.ky fi.kM, Kv.ky a.kv fi.kV, a.kn, fun z hz => ?_, h.ne, ⟨h.bd.e, fun z hz => ?_⟩, h.le, Nat.le_trans a.base fi.low.size⟩, a.vc.trans fi.vc⟩
  · rcases List.mem_append.1 hz with hz | hz
    · exact h.sz z hz
    · simp at hz; subst hz; exact hs
  · rcases List.mem_append.1 hz with hz | hz
    · exact h.bd.es z hz
    · simp at hz; subst hz; exact hB

set_option maxRecDepth 100000 in
set_option maxHeartbeats 4000000 in
/-- There is room. -/
theorem hold_room {w : World} {B p n m : Nat} {q : Cc} {es : List En} {x : En} {f : ByteArray → Option ByteArray} (h : CM E (x :: X) w B p q es n f) (hX : ∀ y ∈ X, y.b ≠ x.b) (hm : q.m = (m : Nat)) (hlt : es.length < m) (hl : es.length ≤ 1000) (hk : ∀ y ∈ es, y.k ≠ x.k) (hs : x.k.size ≤ 64) (hd : x.d = false) (hB : B ≤ x.b) :
    Calls Try.prog 28 #[.pointer (some ⟨p, 0, none⟩), .pointer (some ⟨x.b, 0, none⟩)] w fun r w' => r = .returned (.int .i64 0) ∧ CM E X w' B p q (es ++ [x]) n f ∧ Vc E B w w' := by
  obtain ⟨_, c1, c2, _⟩ := h.cb.c
  rw [hm] at c1
  have ln : ∀ n ty, (Builtin.len_ #[57] ty #[.map (some q.mh)]).run Try.prog (w.drewN n) = .ok (.int .i64 (es.length : Nat)) (w.drewN n) := fun n ty => (h.kept (Q.keptN w n)).hm.len ty
  have eq : (((es.length : Nat) : Int) == ((m : Nat) : Int)) = false := by simp; omega
  have H0 : Hid (∀ W, Kept w W → CM E (x :: X) W B p q es n f ∧ Vc E B w W) := fun W k => ⟨h.kept k, Vc.of k h.base⟩
  have HA : Hid (∀ W, CM E (x :: X) W B p q es n f → _) := fun W k => k.add hX hk hs hd hl
  have HS : Hid (x.k.size ≤ 64) := hs
  generalize es.length = L at ln eq
  clear h hk hs hd hl hlt hm
  go_enter Try.func28, Try.ntmps28
  go_wp2_with fail
  go_quiet (fail)
  obtain ⟨k0, v0⟩ := H0.out _ (Q.keptN w nq)
  generalize w.drewN nq = W0 at *
  obtain ⟨⟨d2, d0⟩, w2, r2, A2, D2⟩ := HA.out _ k0
  have S2 : Hid (_ ∧ _) := D2
  have l3 := enter_calls A2.cb A2.lo k0.bd hB
  have HF : Hid (∀ w3, Hs X w3 q.e (es ++ [x]) → Fi B w2 w3 → CM E X w3 B p q (es ++ [x]) n f ∧ Vc E B w w3) := fun w3 h3 fi => (by
    obtain ⟨a, b⟩ := A2.fin k0 HS.out hB h3 fi
    exact ⟨a, v0.trans b⟩)
  clear k0 D2 A2 v0 H0 HA
  go_wp2_with fail
  go_region_held3 (fun W => W.cell? ⟨p, 2, none⟩ = some (.map (some q.mh)) ∧ W.cell? ⟨x.b, 0, none⟩ = some (.string x.k)) (first | exact ⟨d2, d0⟩ | exact S2.out | go_keep) (first | fail)
  all_goals go_wp2_with (go_at_call 33; (with_reducible refine l3.mono ?_); rintro r w3 ⟨rfl, h3, f3⟩; have FI : Hid (_ ∧ _) := HF.out w3 h3 f3; clear h3 f3 l3 HF)
  all_goals go_ret
  all_goals exact ⟨rfl, FI.out⟩

set_option maxRecDepth 100000 in
set_option maxHeartbeats 4000000 in
/-- There is none: the first one goes. -/
theorem hold_full {w : World} {B p n n' m : Nat} {q q' : Cc} {y x : En} {C : List En} {f f' : ByteArray → Option ByteArray} (h : CM E (x :: X) w B p q (y :: C) n f) (hX : ∀ y ∈ X, y.b ≠ x.b) (hm : q.m = (m : Nat)) (heq : (y :: C).length = m) (hl : C.length ≤ 1000) (hk : ∀ z ∈ C, z.k ≠ x.k) (hs : x.k.size ≤ 64) (hd : x.d = false) (hB : B ≤ x.b)
    (hdr : ∀ W, Kept w W → Calls Try.prog 32 #[.pointer (some ⟨p, 0, none⟩)] W fun r w' => r = .returned (.int .i64 0) ∧ (∃ n2, n2 ≤ n' ∧ CM E (x :: X) w' B p q' C n2 f') ∧ Vc E B W w') :
    Calls Try.prog 28 #[.pointer (some ⟨p, 0, none⟩), .pointer (some ⟨x.b, 0, none⟩)] w fun r w' => r = .returned (.int .i64 0) ∧ (∃ n2, n2 ≤ n' ∧ CM E X w' B p q' (C ++ [x]) n2 f') ∧ Vc E B w w' := by
  obtain ⟨_, c1, c2, _⟩ := h.cb.c
  rw [hm, ← heq] at c1
  have ln : ∀ n ty, (Builtin.len_ #[57] ty #[.map (some q.mh)]).run Try.prog (w.drewN n) = .ok (.int .i64 ((y :: C).length : Nat)) (w.drewN n) := fun n ty => (h.kept (Q.keptN w n)).hm.len ty
  have H0 : Hid (∀ W, Kept w W → Vc E B w W) := fun W k => Vc.of k h.base
  have HA : Hid (∀ W n2, CM E (x :: X) W B p q' C n2 f' → _) := fun W n2 k => k.add hX hk hs hd hl
  have HS : Hid (x.k.size ≤ 64) := hs
  have HD : Hid (∀ W, Kept w W → _) := hdr
  generalize (y :: C).length = L at ln c1
  clear h hk hs hd hl heq hm hdr
  go_enter Try.func28, Try.ntmps28
  go_wp2_with fail
  go_quiet (fail)
  have v0 := H0.out _ (Q.keptN w nq)
  have hdr := HD.out _ (Q.keptN w nq)
  generalize w.drewN nq = W0 at *
  have V0 : Hid (Vc E B w W0) := v0
  clear v0 H0 HD
  go_wp2_with (go_at_call 32; (with_reducible refine hdr.mono ?_); rintro r w1 ⟨rfl, ⟨n2, hn2, M1⟩, V1⟩; have N2 : Hid (n2 ≤ n') := hn2; have k0 := M1; have V1' : Hid (Vc E B W0 w1) := V1; clear hdr M1 V1 hn2)
  obtain ⟨⟨d2, d0⟩, w2, r2, A2, D2⟩ := HA.out _ _ k0
  have S2 : Hid (_ ∧ _) := D2
  have l3 := enter_calls A2.cb A2.lo k0.bd hB
  have HF : Hid (∀ w3, Hs X w3 q'.e (C ++ [x]) → Fi B w2 w3 → CM E X w3 B p q' (C ++ [x]) n2 f' ∧ Vc E B w1 w3) := fun w3 h3 fi => (A2.fin k0 HS.out hB h3 fi)
  clear k0 D2 A2 HA c1 c2 ln
  go_wp2_with fail
  go_region_held3 (fun W => W.cell? ⟨p, 2, none⟩ = some (.map (some q'.mh)) ∧ W.cell? ⟨x.b, 0, none⟩ = some (.string x.k)) (first | exact ⟨d2, d0⟩ | exact S2.out | go_keep) (first | fail)
  all_goals go_wp2_with (go_at_call 33; (with_reducible refine l3.mono ?_); rintro r w3 ⟨rfl, h3, f3⟩; have FI : Hid (_ ∧ _) := HF.out w3 h3 f3; clear h3 f3 l3 HF)
  all_goals go_ret
  all_goals exact ⟨rfl, ⟨n2, N2.out, FI.out.1⟩, (V0.out.trans V1'.out).trans FI.out.2⟩
end Go.Proofs.Ytbpelhfbgjplbaa.Ca
