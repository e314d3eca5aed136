/- The walks of fault.Text, fault.Code, fault.Chain, fault.First and of the statements' awake: of a chain of faults the document's answers. Conditions: errors.errorType and the library's table of powers of ten hold what the program's text lays; for Text: as for Error. -/
import Derived.Test.YtbdlobmciemadaaDoorWalkD
namespace Go.Proofs.YtbdlobmciemadaaDoor
open Go.RowKit

set_option maxRecDepth 100000 in
theorem error_none (w : World) (hd : Lds w) :
    Calls Tryd.prog 16 #[.pointer none] w fun e w' => e = .returned (.string ⟨#[]⟩) ∧ Kept w w' := by
  have hka : Kept w (w.alloc (.cells #[.pointer none, .slice none 0 0] 59)) := (Kept.refl w).alloc _
  have hth := through_none 65536 (by omega) (w.alloc (.cells #[.pointer none, .slice none 0 0] 59)) (hka.cell hd.et)
  go_enter Tryd.func16, Tryd.ntmps16
  go_wp2_with (go_at_call 20; refine hth.mono ?_; rintro e w1 ⟨rfl, hk⟩; clear hth)
  refine wp_loop_rounds 1 ?_
  rw [rounds_succ]
  have hst := St.start hk
  go_wp2_with (go_at_call 27; refine (string_in hst).mono ?_; rintro e W' ⟨rfl, hkw⟩)
  go_ret
  exact ⟨rfl, hkw⟩

theorem text_walk (l : List Nd) (v0 : Value) (w : World) (hch : Ch w l v0) (hd : Lds w) (hf : ∀ y ∈ l, Fine y) (hn : l.length ≤ 65536) :
    Calls Tryd.prog 13 #[v0] w fun e w' => e = .returned (.string ⟨(txt l).toArray⟩) ∧ Kept w w' := by
  cases l with
  | nil =>
    obtain rfl : v0 = .nilIface := hch
    have h0 := error_none w hd
    go_enter Tryd.func13, Tryd.ntmps13
    go_wp2_with (first
      | (go_at_call 21; refine (own_nil _).mono ?_; rintro e w' ⟨rfl, rfl⟩)
      | (go_at_call 16; refine h0.mono ?_; rintro e w1 ⟨rfl, hk⟩))
    go_ret
    exact ⟨rfl, hk⟩
  | cons x r =>
    obtain rfl : v0 = .iface 39 (.pointer (some ⟨x.b, 0, none⟩)) := hch.1
    have h0 := error_walk x r _ w hch hd hf hn
    clear hch hf hn
    generalize txt (x :: r) = t at *
    go_enter Tryd.func13, Tryd.ntmps13
    go_wp2_with (first
      | (go_at_call 21; refine (own_is _ _).mono ?_; rintro e w' ⟨rfl, rfl⟩)
      | (go_at_call 16; refine h0.mono ?_; rintro e w1 ⟨rfl, hk⟩))
    go_ret
    exact ⟨rfl, hk⟩

/-- The number of what a chain is. -/
def code (l : List Nd) : Int := match l with | [] => 0 | x :: _ => x.c

theorem code_walk (l : List Nd) (v0 : Value) (w : World) (hch : Ch w l v0) :
    Calls Tryd.prog 11 #[v0] w fun e w' => e = .returned (.int .i64 (code l)) ∧ w' = w := by
  cases l with
  | nil =>
    obtain rfl : v0 = .nilIface := hch
    go_enter Tryd.func11, Tryd.ntmps11
    go_wp2_with (go_at_call 21; refine (own_nil _).mono ?_; rintro e w' ⟨rfl, rfl⟩)
    go_ret
    exact ⟨rfl, rfl⟩
  | cons x r =>
    have hin := (Ch.in _ _ hch x (List.mem_cons_self)).str (Below.refl _ _)
    obtain rfl : v0 = .iface 39 (.pointer (some ⟨x.b, 0, none⟩)) := hch.1
    have c1 := hin.2
    go_enter Tryd.func11, Tryd.ntmps11
    go_wp2_with (go_at_call 21; refine (own_is _ _).mono ?_; rintro e w' ⟨rfl, rfl⟩)
    go_ret
    exact ⟨rfl, rfl⟩

theorem itoa2 (u : Nat) (h1 : 10 ≤ u) (h2 : u < 100) : Lib.itoa (u : Int) = [UInt8.ofNat (48 + u / 10), UInt8.ofNat (48 + u % 10)] := by
  unfold Lib.itoa
  rw [if_neg (by omega), Int.toNat_natCast, Lib.decDigits, dif_neg (by omega), Lib.decDigits, dif_pos (by omega)]
  rfl

/-- The first text that the statements ask for. -/
theorem txt_awake (a b : Nat) : (txt [⟨a, ⟨#[114, 117, 110]⟩, 40⟩, ⟨b, ⟨#[111, 112, 101, 110]⟩, 41⟩]).toArray = #[114, 117, 110, 32, 52, 48, 58, 32, 111, 112, 101, 110, 32, 52, 49] := by
  have h0 : Lib.itoa 40 = [52, 48] := itoa2 40 (by decide) (by decide)
  have h1 : Lib.itoa 41 = [52, 49] := itoa2 41 (by decide) (by decide)
  simp [txt, flat, part, h0, h1]

theorem awake_walk (w : World) (hd : Lds w) :
    Calls Tryd.prog 10 #[] w fun e w' => e = .returned (.bool true) ∧ Kept w w' := by
  have hk1 : Kept w (w.alloc (.cells #[.string ⟨#[111, 112, 101, 110]⟩, .int .i64 41, .nilIface] 50)) := (Kept.refl w).alloc _
  have hk2 := hk1.alloc (.cells #[.string ⟨#[114, 117, 110]⟩, .int .i64 40, .iface 39 (.pointer (some ⟨w.heap.size, 0, none⟩))] 50)
  have hch : Ch ((w.alloc (.cells #[.string ⟨#[111, 112, 101, 110]⟩, .int .i64 41, .nilIface] 50)).alloc (.cells #[.string ⟨#[114, 117, 110]⟩, .int .i64 40, .iface 39 (.pointer (some ⟨w.heap.size, 0, none⟩))] 50))
      [⟨w.heap.size + 1, ⟨#[114, 117, 110]⟩, 40⟩, ⟨w.heap.size, ⟨#[111, 112, 101, 110]⟩, 41⟩] (.iface 39 (.pointer (some ⟨w.heap.size + 1, 0, none⟩))) := by
    refine ⟨rfl, _, ?_, rfl, _, ?_, rfl⟩
    · have := heap_alloc_new (w.alloc (.cells #[.string ⟨#[111, 112, 101, 110]⟩, .int .i64 41, .nilIface] 50)) (.cells #[.string ⟨#[114, 117, 110]⟩, .int .i64 40, .iface 39 (.pointer (some ⟨w.heap.size, 0, none⟩))] 50)
      simpa using this
    · exact ((Kept.refl _).alloc _).block (heap_alloc_new w _)
  have ht := text_walk _ _ _ hch (hd.kept hk2) (by
    intro y hy
    rcases List.mem_cons.1 hy with rfl | hy
    · exact ⟨by simp, by simp, by show 3 ≤ 1000; omega⟩
    · obtain rfl := List.mem_singleton.1 hy
      exact ⟨by simp, by simp, by show 4 ≤ 1000; omega⟩) (by simp)
  rw [txt_awake] at ht
  clear hch hd
  go_enter Tryd.func10, Tryd.ntmps10
  go_wp2_with (first
    | (go_at_call 15; refine (new_walk _ _ _ (by first | exact .inl rfl | exact .inr ⟨_, rfl⟩) _ (by decide)).mono ?_; rintro e w' ⟨rfl, rfl⟩)
    | (go_at_call 13; refine ht.mono ?_; rintro e w1 ⟨rfl, hk⟩))
  go_ret
  exact ⟨rfl, hk2.trans hk⟩
end Go.Proofs.YtbdlobmciemadaaDoor
