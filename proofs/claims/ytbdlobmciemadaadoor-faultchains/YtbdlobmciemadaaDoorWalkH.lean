/- The walks of errors.Is over a chain of faults at a target that has a number alone, and of fault.Has. Conditions: errors.errorType holds what the program's text lays; the chain is of 65536 faults at most. -/
import Derived.Test.YtbdlobmciemadaaDoorWalkG
namespace Go.Proofs.YtbdlobmciemadaaDoor
open Go.RowKit Go.Extern.Stop Go.Stop Go.Extern

theorem In.lt {w : World} {y : Nd} (h : In w y) : y.b < w.heap.size := by
  obtain ⟨u, h⟩ := h.ex
  exact (Array.getElem?_eq_some_iff.1 h).1

theorem callComparable (w : World) : (callFunc 76 #[.agg #[.pointer (some ⟨4, 39, none⟩)]]).run Tryd.prog w = .ok (.value (.bool true)) w := by kernel_rfl

theorem errorsIs_walk (l : List Nd) (v0 : Value) (t : Nat) (c : Int) (w : World) (hch : Ch w l v0) (ht : Tgt w t c) (hne : ∀ y ∈ l, y.b ≠ t) :
    Calls Tryd.prog 24 #[v0, .iface 39 (.pointer (some ⟨t, 0, none⟩))] w fun e w' => e = .returned (.bool (has l c)) ∧ Kept w w' := by
  cases l with
  | nil =>
    obtain rfl : v0 = .nilIface := hch
    have hn := run_eql_iface_nil_left (P := Tryd.prog) w 39 (.pointer (some ⟨t, 0, none⟩)) Tryd.underlying24
    go_enter Tryd.func24, Tryd.ntmps24
    go_wp2
    go_ret
    exact ⟨rfl, Kept.refl _⟩
  | cons x r =>
    have h1 := is_loop x r v0 t c w hch ht hne
    obtain rfl : v0 = .iface 39 (.pointer (some ⟨x.b, 0, none⟩)) := hch.1
    clear hch ht hne
    generalize has (x :: r) c = b at *
    have h31 := @run_callFunc_extern Tryd.prog 31 _ ReflectliteType.typeOf Tryd.func31 (by kernel_rfl) (by kernel_rfl) (by kernel_rfl) (by kernel_rfl)
    have h76 := callComparable
    have f1 := typeOf39'
    have f3 := findComparable
    go_enter Tryd.func24, Tryd.ntmps24
    go_wp2_with (go_at_call 32; refine h1.mono ?_; rintro e w' ⟨rfl, hkw⟩)
    go_ret
    exact ⟨rfl, hkw⟩

theorem has_ok (v0 : Value) (w : World) :
    Calls Tryd.prog 14 #[v0, .int .i64 0] w fun e w' => e = .returned (.bool false) ∧ Kept w w' := by
  go_enter Tryd.func14, Tryd.ntmps14
  go_wp2
  go_ret
  exact ⟨rfl, (Kept.refl w).alloc _⟩

theorem has_walk (l : List Nd) (v0 : Value) (c : Int) (w : World) (hch : Ch w l v0) (hd : Lds w) (hn : l.length ≤ 65536) (hc : (c == 0) = false) :
    Calls Tryd.prog 14 #[v0, .int .i64 c] w fun e w' => e = .returned (.bool (has l c)) ∧ Kept w w' := by
  have hka : Kept w (w.alloc (.cells #[.int .i64 c] 31)) := (Kept.refl w).alloc _
  have hth := through_walk l v0 65537 65537 (by omega) (by omega) (w.alloc (.cells #[.int .i64 c] 31)) (Ch.kept hka _ _ hch) (hka.cell hd.et)
  rw [List.take_of_length_le (by omega)] at hth
  have HC : Hid (Ch w l v0) := hch
  clear hch hd
  go_enter Tryd.func14, Tryd.ntmps14
  go_wp2_with (first
    | (go_at_call 20; refine hth.mono ?_; rintro e w1 ⟨v, rfl, hown, hk⟩; obtain ⟨p, cap, rfl⟩ := owns_shape hown; clear hown hth; have c0 : w1.cell? ⟨w.heap.size, 0, none⟩ = some (.int .i64 c) := hk.cell (by simp))
    | (go_at_call 24; refine (errorsIs_walk l v0 w1.heap.size c _ (Ch.kept ((hka.trans hk).alloc _) _ _ HC.out) ⟨heap_alloc_new w1 _⟩ ?_).mono ?_; (intro y hy; have := (Ch.in _ _ HC.out y hy).lt; have := (hka.trans hk).size; omega); rintro e w2 ⟨rfl, hk2⟩))
  go_ret
  exact ⟨rfl, ((hka.trans hk).alloc _).trans hk2⟩
end Go.Proofs.YtbdlobmciemadaaDoor
