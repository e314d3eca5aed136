/- The walk of fault.through: the faults that an error is and came of, as a list of its own; all memory that was there is as it was. Conditions: errors.errorType holds the handle of the type error; the error is a chain of faults, nil at its end; at most 65537 are asked for. -/
import Derived.Test.YtbdlobmciemadaaDoorWalkA
namespace Go.Proofs.YtbdlobmciemadaaDoor
open Go.RowKit

theorem info39 : (Tryd.prog.info? 39).map (fun i => (i.zero, i.size, i.bytes)) = some (some (.pointer none), 1, 8) := by kernel_rfl

theorem below_own {w wx w1 : World} {v : Value} {n : Nat} {xs : List Value} {e : Nat} (hk : Kept w wx) (hown : wx.ownsRow w.heap.size e 1 v n xs) {W : World} (hW : Kept wx W) (hg : W.grownBy w1 v.ownBlock) : Kept w w1 :=
  ⟨((hk.trans hW).out).grown hg (hk.trans hW).size (fun k h => (hown.lt k h).1)⟩

/-- What a fault came of, in memory. -/
theorem field_of {w : World} {b : Nat} {s c u : Value} (h : w.heap[b]? = some (.cells #[s, c, u] 50)) : w.cell? ⟨b, 2, none⟩ = some u := by
  rw [cell_of_row w b 2 _ _ _ h]; rfl

theorem owns_shape {w : World} {base e size : Nat} {v : Value} {n : Nat} {xs : List Value} (h : w.ownsRow base e size v n xs) : ∃ p cap, v = .slice p n cap := by
  rcases h.2 with ⟨rfl, rfl⟩ | ⟨g, cap, cur, rfl, _⟩
  · exact ⟨_, _, rfl⟩
  · exact ⟨_, _, rfl⟩

set_option maxRecDepth 100000 in
set_option maxHeartbeats 1000000 in
theorem through_walk (l : List Nd) (v0 : Value) (m : Int) (most : Nat) (hmm : m = most) (hm : most ≤ 65537) (w : World) (hch : Ch w l v0) (hg : w.cell? ⟨0, 0, none⟩ = some (rty 24)) :
    Calls Tryd.prog 20 #[v0, .int .i64 m] w fun e w' => ∃ v, e = .returned v ∧ w'.ownsRow w.heap.size 39 1 v (l.take most).length (ptrs (l.take most)) ∧ Kept w w' := by
  subst hmm
  obtain ⟨i0, hi, hz0, hz1, hz2⟩ := info_parts info39
  go_enter Tryd.func20, Tryd.ntmps20
  go_wp2
  go_loopg [0, 5] l.length (fun g err v wx => ∃ done rest, l = done ++ rest ∧ rest.length = g ∧ done.length ≤ most ∧ Ch w rest err ∧ wx.ownsRow w.heap.size 39 1 v done.length (ptrs done) ∧ Kept w wx)
  case atStart => exact ⟨[], l, rfl, rfl, Nat.zero_le _, hch, World.ownsRow_nil _ _ _ _, Kept.refl _⟩
  case round =>
    obtain ⟨done, rest, hl, hlen, hdm, hc, hown, hk⟩ := hrel
    obtain ⟨p, cap, rfl⟩ := owns_shape hown
    have HL : Hid (l = done ++ rest) := hl
    have HM : Hid (rest.length = gk) := hlen
    clear hl hlen hch
    by_cases hlt : done.length < most
    · cases rest with
      | nil =>
        obtain rfl : u0 = .nilIface := hc
        go_wp2_with (go_at_call 29; refine (as_nil _ _).mono ?_; rintro e w' ⟨rfl, rfl⟩)
        go_ret
        have e1 : l.take most = done := by rw [HL.out, List.append_nil]; exact List.take_of_length_le (by omega)
        rw [e1]
        exact ⟨_, rfl, hown.alloc _, hk.alloc _⟩
      | cons x r =>
        obtain ⟨rfl, u, hx, hcr⟩ := hc
        have g0 : (wr.alloc (.cells #[.pointer none] 39)).cell? ⟨0, 0, none⟩ = some (rty 24) := (hk.alloc _).cell hg
        have t0 : (wr.alloc (.cells #[.pointer none] 39)).cell? ⟨wr.heap.size, 0, none⟩ = some (.pointer none) := by simp
        have f0 : (wr.alloc (.cells #[.pointer none] 39)).frozen? ⟨wr.heap.size, 0, none⟩ = false := by simp
        have HX : Hid (w.heap[x.b]? = some (.cells #[.string x.s, .int .i64 x.c, u] 50)) := hx
        have HO : Hid (wr.ownsRow w.heap.size 39 1 (.slice p done.length cap) done.length (ptrs done)) := hown
        clear hx hown
        go_wp2_with (first
          | (go_at_call 29; refine (as_hit _ _ _ _ g0 t0 f0).mono ?_; rintro e w' ⟨rfl, rfl⟩)
          | (at_builtin; refine wpList_append_own _ rfl _ _ 47 rfl w.heap.size 39 i0 (.pointer none) 1 8 Tryd.underlying47 hi hz0 hz1 hz2 rfl (by decide) (.slice p done.length cap) done.length (ptrs done) rfl ?c0 _ 1 1 [.pointer (some ⟨x.b, 0, none⟩)] rfl rfl ?c1 ?c2 ?c3 ?c4 ?c5 ?_))
        case c0 => exact (((((HO.out.alloc _).alloc _).alloc _).alloc _).alloc _).alloc _
        case c1 =>
          intro j u hj
          match j, hj with
          | 0, hj => simp at hj; subst hj; simp only [Addr.add, if_true]; rw [World.cell?_alloc_at _ _ _ _ (by simp)]; rfl
        case c2 => intro u hu; simp at hu; subst hu; rfl
        case c3 => unfold maxLen; omega
        case c4 => omega
        case c5 => have := hk.size; simp; omega
        intro v' w1 hown1 hgrow _
        have hk1 : Kept w w1 := below_own hk HO.out ((((((Kept.refl wr).alloc _).alloc _).alloc _).alloc _).alloc _ |>.alloc _) hgrow
        have hf1 : w1.cell? ⟨wr.heap.size, 0, none⟩ = some (.pointer (some ⟨x.b, 0, none⟩)) := by
          refine hgrow.cell ?_ ?_
          · rw [World.cell?_alloc_lt _ _ _ (by simp; omega), World.cell?_alloc_lt _ _ _ (by simp; omega), World.cell?_alloc_lt _ _ _ (by simp; omega), World.cell?_alloc_lt _ _ _ (by simp; omega), World.cell?_alloc_lt _ _ _ (by simp)]
            simp
          · intro h
            have := (HO.out.lt _ h.symm).2
            simp at this
        have hx1 := field_of (hk1.block HX.out)
        clear hgrow g0 t0 f0 hi hz0 hz1 hz2
        have H1 : Hid (w1.ownsRow w.heap.size 39 1 v' (done.length + 1) (ptrs done ++ [.pointer (some ⟨x.b, 0, none⟩)])) := hown1
        clear hown1
        go_wp2
        cases gk with
        | zero => have := HM.out; simp at this
        | succ g =>
          go_roundg g
          case measure => omega
          case rel =>
            refine ⟨done ++ [x], r, by rw [HL.out]; simp, by have := HM.out; simpa using this, by simp; omega, hcr, ?_, hk1⟩
            have := H1.out
            simpa [ptrs] using this
    · go_wp2
      go_ret
      have e1 : l.take most = done := by
        rw [HL.out, List.take_append_of_le_length (by omega)]
        exact List.take_of_length_le (by omega)
      rw [e1]
      exact ⟨_, rfl, hown, hk⟩

/-- A nil fault is none. -/
theorem through_none (m : Int) (hm : 0 < m) (w : World) (hg : w.cell? ⟨0, 0, none⟩ = some (rty 24)) :
    Calls Tryd.prog 20 #[.iface 39 (.pointer none), .int .i64 m] w fun e w' => e = .returned (.slice none 0 0) ∧ Kept w w' := by
  have g0 : (w.alloc (.cells #[.pointer none] 39)).cell? ⟨0, 0, none⟩ = some (rty 24) := ((Kept.refl w).alloc _).cell hg
  have t0 : (w.alloc (.cells #[.pointer none] 39)).cell? ⟨w.heap.size, 0, none⟩ = some (.pointer none) := by simp
  have f0 : (w.alloc (.cells #[.pointer none] 39)).frozen? ⟨w.heap.size, 0, none⟩ = false := by simp
  go_enter Tryd.func20, Tryd.ntmps20
  go_wp2
  refine wp_loop_rounds 1 ?_
  rw [rounds_succ]
  go_wp2_with (go_at_call 29; refine (as_hit _ _ _ _ g0 t0 f0).mono ?_; rintro e w' ⟨rfl, rfl⟩)
  go_ret
  exact ⟨rfl, (((((Kept.refl w).alloc _).alloc _).alloc _).alloc _).alloc _⟩
end Go.Proofs.YtbdlobmciemadaaDoor
