/- The walks of fault.Chain and fault.First: the numbers of a chain of faults, 64 at most, as a list of its own; the last of them. Conditions: errors.errorType holds what the program's text lays. -/
import Derived.Test.YtbdlobmciemadaaDoorWalkE
namespace Go.Proofs.YtbdlobmciemadaaDoor
open Go.RowKit

theorem info31 : (Tryd.prog.info? 31).map (fun i => (i.zero, i.size, i.bytes)) = some (some (.int .i64 0), 1, 8) := by kernel_rfl

/-- The numbers of faults, as cells. -/
def codes (l : List Nd) : List Value := l.map fun x => .int .i64 x.c

theorem Row.kept {W W' : World} {l : List Nd} {g : Nat} (h : Row W l g) (k : Kept W W') : Row W' l g := by
  obtain ⟨cur, h1, h2⟩ := h.ex
  exact ⟨cur, k.block h1, h2⟩

/-- A list of numbers, in memory, with its slice. -/
structure Nums (W : World) (l : List Nd) (v : Value) : Prop where
  ex : ∃ base, W.ownsRow base 31 1 v l.length (codes l)

theorem Nums.shape {W : World} {l : List Nd} {v : Value} (h : Nums W l v) : ∃ p cap, v = .slice p l.length cap := owns_shape h.ex.choose_spec

theorem Nums.kept {W W' : World} {l : List Nd} {v : Value} (h : Nums W l v) (k : Kept W W') : Nums W' l v := by
  obtain ⟨base, h⟩ := h.ex
  refine ⟨base, h.kept (row := none) ⟨k.out.os, k.out.tape, k.out.output, k.out.size, fun i hi _ => k.out.block i hi⟩ (by cases v.ownBlock <;> simp)⟩

theorem Nums.some {W : World} {l : List Nd} {v : Value} (h : Nums W l v) (hl : 0 < l.length) :
    ∃ g cap, v = .slice (some ⟨g, 0, none⟩) l.length cap ∧ l.length ≤ cap ∧ ∀ k y, l[k]? = some y → W.cell? ⟨g, k, none⟩ = some (.int .i64 y.c) := by
  obtain ⟨base, h⟩ := h.ex
  rcases h.2 with ⟨_, h0⟩ | ⟨g, cap, cur, rfl, hb, hg, hc, _, _, ht⟩
  · omega
  · refine ⟨g, cap, rfl, hc, fun k y hy => ?_⟩
    have h1 : (codes l)[k]? = Option.some (.int .i64 y.c) := by simp [codes, hy]
    rw [← ht, List.getElem?_take] at h1
    split at h1
    · rw [cell_of_row W g k _ _ _ hg]; simpa using h1
    · cases h1

set_option maxRecDepth 100000 in
set_option maxHeartbeats 1000000 in
theorem chain_walk (l0 : List Nd) (v0 : Value) (w : World) (hch : Ch w l0 v0) (hd : Lds w) :
    Calls Tryd.prog 9 #[v0] w fun e w' => ∃ v, e = .returned v ∧ Nums w' (l0.take 64) v ∧ Kept w w' := by
  obtain ⟨i0, hi, hz0, hz1, hz2⟩ := info_parts info31
  have hth := through_walk l0 v0 64 64 (by omega) (by omega) w hch hd.et
  have hin : ∀ y ∈ l0.take 64, In w y := fun y hy => Ch.in _ _ hch y (List.mem_of_mem_take hy)
  have hlen : (l0.take 64).length ≤ 64 := by rw [List.length_take]; omega
  generalize l0.take 64 = l at *
  clear hch hd
  have HI : Hid (∀ y ∈ l, In w y) := hin
  clear hin
  by_cases hpos : 0 < l.length
  · go_enter Tryd.func9, Tryd.ntmps9
    go_wp2_with (go_at_call 20; refine hth.mono ?_; rintro e w1 ⟨v, rfl, hown, hk⟩; obtain ⟨g, cap, rfl, hg, hcap, hrow⟩ := row_of hown hpos; clear hown hth)
    clear hg
    go_loopg [3, 9] l.length (fun n v c wx => ∃ k : Nat, k + n = l.length ∧ c = .int .i64 k ∧ wx.ownsRow w1.heap.size 31 1 v (l.take k).length (codes (l.take k)) ∧ Kept w1 wx)
    case atStart => exact ⟨0, by omega, rfl, World.ownsRow_nil _ _ _ _, Kept.refl _⟩
    case round =>
      obtain ⟨k, hkn, rfl, hown, hk1⟩ := hrel
      obtain ⟨p, cap1, rfl⟩ := owns_shape hown
      by_cases hlt : k < l.length
      · obtain ⟨y, hy⟩ : ∃ y, l[k]? = some y := ⟨l[k], List.getElem?_eq_getElem hlt⟩
        have hiny := HI.out y (List.mem_of_getElem? hy)
        have c0 := (hrow.kept hk1).cell hy
        have c1 := (hiny.str (hk.trans hk1).out).2
        have HY : Hid (l[k]? = some y) := hy
        have HO : Hid (wr.ownsRow w1.heap.size 31 1 (.slice p (l.take k).length cap1) (l.take k).length (codes (l.take k))) := hown
        have hlk : (l.take k).length ≤ 64 := by rw [List.length_take]; omega
        clear hy hown
        generalize hlk0 : l.take k = lk at *
        have HK : Hid (l.take k = lk) := hlk0
        clear hlk0
        go_wp2_with (at_builtin; refine wpList_append_own _ rfl _ _ 28 rfl w1.heap.size 31 i0 (.int .i64 0) 1 8 Tryd.underlying28 hi hz0 hz1 hz2 rfl (by decide) (.slice p lk.length cap1) lk.length (codes lk) rfl ?c0 _ 1 1 [.int .i64 y.c] rfl rfl ?c1 ?c2 ?c3 ?c4 ?c5 ?_)
        case c0 => exact HO.out.alloc _
        case c1 =>
          intro j u hj
          match j, hj with
          | 0, hj => simp at hj; subst hj; simp only [Addr.add, if_true]; rw [World.cell?_alloc_at _ _ _ _ (by simp)]; rfl
        case c2 => intro u hu; simp at hu; subst hu; rfl
        case c3 => unfold maxLen; omega
        case c4 => omega
        case c5 => have := hk1.size; simp; omega
        intro v' w2 hown1 hgrow _
        have hk2 : Kept w1 w2 := below_own hk1 HO.out ((Kept.refl wr).alloc _) hgrow
        clear hgrow hi hz0 hz1 hz2 c0 c1
        have H1 : Hid (w2.ownsRow w1.heap.size 31 1 v' (lk.length + 1) (codes lk ++ [.int .i64 y.c])) := hown1
        clear hown1
        go_wp2
        obtain ⟨n, rfl⟩ : ∃ n, gk = n + 1 := ⟨gk - 1, by omega⟩
        go_roundg n
        case measure => omega
        case rel =>
          refine ⟨k + 1, by omega, by go_num, ?_, hk2⟩
          rw [take_next HY.out, HK.out]
          have := H1.out
          simpa [codes] using this
      · have hkl : k = l.length := by omega
        subst hkl
        rw [List.take_length] at hown
        have H1 : Hid (Nums wr l (.slice p l.length cap1)) := ⟨_, by simpa using hown⟩
        clear hown
        simp only [List.take_length]
        go_wp2
        go_ret
        exact ⟨_, rfl, H1.out, hk.trans hk1⟩
  · obtain rfl : l = [] := List.eq_nil_of_length_eq_zero (by omega)
    go_enter Tryd.func9, Tryd.ntmps9
    go_wp2_with (go_at_call 20; refine hth.mono ?_; rintro e w1 ⟨v, rfl, hown, hk⟩; obtain ⟨p, cap, rfl⟩ := owns_shape hown; clear hown hth)
    refine wp_loop_rounds 1 ?_
    rw [rounds_succ]
    go_wp2
    go_ret
    exact ⟨_, rfl, ⟨0, World.ownsRow_nil _ _ _ _⟩, hk⟩

/-- The last number of a list; 0 of none. -/
def last (l : List Nd) : Int := match l.getLast? with | none => 0 | some y => y.c

theorem first_walk (l0 : List Nd) (v0 : Value) (w : World) (hch : Ch w l0 v0) (hd : Lds w) :
    Calls Tryd.prog 12 #[v0] w fun e w' => e = .returned (.int .i64 (last (l0.take 64))) ∧ Kept w w' := by
  have hth := chain_walk l0 v0 w hch hd
  have hlen : (l0.take 64).length ≤ 64 := by rw [List.length_take]; omega
  generalize l0.take 64 = l at *
  clear hch hd
  by_cases hpos : 0 < l.length
  · obtain ⟨n, hn⟩ : ∃ n, l.length = n + 1 := ⟨l.length - 1, by omega⟩
    have hne : (((n : Int) + 1) == 0) = false := by rw [beq_eq_false_iff_ne]; omega
    obtain ⟨y, hy⟩ : ∃ y, l[n]? = some y := ⟨l[n], List.getElem?_eq_getElem (by omega)⟩
    have hl : last l = y.c := by unfold last; rw [List.getLast?_eq_getElem?, hn, Nat.add_sub_cancel, hy]
    rw [hl]
    have HY : Hid (l[n]? = some y) := hy
    clear hy hl
    go_enter Tryd.func12, Tryd.ntmps12
    go_wp2_with (go_at_call 9; refine hth.mono ?_; rintro e w1 ⟨v, rfl, hnum, hk⟩; obtain ⟨g, cap, rfl, hcap, hat⟩ := hnum.some hpos; have c0 := hat _ _ HY.out; clear hat hth)
    go_ret
    exact ⟨rfl, hk⟩
  · obtain rfl : l = [] := List.eq_nil_of_length_eq_zero (by omega)
    go_enter Tryd.func12, Tryd.ntmps12
    go_wp2_with (go_at_call 9; refine hth.mono ?_; rintro e w1 ⟨v, rfl, hnum, hk⟩; obtain ⟨p, cap, rfl⟩ := hnum.shape; clear hth)
    go_ret
    exact ⟨rfl, hk⟩
end Go.Proofs.YtbdlobmciemadaaDoor
