/- The walk of TreePrints. Conditions: what came in has numbers of 64 bits; strconv's table is laid. -/
import Derived.Test.YtgdafolidifdoaaDoorIZd
import Derived.Test.YtgdafolidifdoaaDoorIX
import Derived.Test.YtgdafolidifdoaaDoorIV
import Derived.Test.YtgdafolidifdoaaDoorIJ
namespace Go.Proofs.YtgdafolidifdoaaDoor.Tp
open Go.ChangeShapes Go.WideShapes Go.ChangeAt Go.RowKit

theorem lit14 {P : Array Value → Prop} (h : ∀ v0 v1 v2 v3 v4 v5 v6 v7 v8 v9 v10 v11 v12 v13 : Value, P #[v0, v1, v2, v3, v4, v5, v6, v7, v8, v9, v10, v11, v12, v13]) : ∀ a : Array Value, a.size = 14 → P a := by
  intro a ha
  have e := arr_range a 14 ha
  have e2 : (List.range 14).map (fun i => a.getD i undef) = [a.getD 0 undef, a.getD 1 undef, a.getD 2 undef, a.getD 3 undef, a.getD 4 undef, a.getD 5 undef, a.getD 6 undef, a.getD 7 undef, a.getD 8 undef, a.getD 9 undef, a.getD 10 undef, a.getD 11 undef, a.getD 12 undef, a.getD 13 undef] := rfl
  rw [e2] at e
  have := h (a.getD 0 undef) (a.getD 1 undef) (a.getD 2 undef) (a.getD 3 undef) (a.getD 4 undef) (a.getD 5 undef) (a.getD 6 undef) (a.getD 7 undef) (a.getD 8 undef) (a.getD 9 undef) (a.getD 10 undef) (a.getD 11 undef) (a.getD 12 undef) (a.getD 13 undef)
  rw [e]
  exact this
/-- A program in memory, of whatever it is made. -/
def Mq (w w' : World) (pg pf pn : Option Addr) (i cg cf cn : Nat) : Prop := ∃ gs fs fl, (Dl w' pg i cg gs ∧ Dl w' pf i cf fs ∧ Fl w' pn i cn fl) ∧ i ≤ 4 ∧ (∀ x ∈ gs, x.n.size ≤ 6 ∧ 0 ≤ x.t ∧ x.t ≤ 3) ∧ (∀ x ∈ fs, x.n.size ≤ 6 ∧ 0 ≤ x.t ∧ x.t ≤ 3) ∧ (∀ f ∈ fl, Fok f ∧ (∀ d ∈ f.ps, I64 d.t) ∧ ∀ d ∈ f.vs, I64 d.t) ∧ Kept w w'
theorem Mp.mq {w0 w w' V : World} {pg pf pn : Option Addr} {i cg cf cn : Nat} (h : Mp w w' pg pf pn i cg cf cn) (hV : ∀ k o, w.heap.size + 2 ≤ k → w'.heap[k]? = some o → V.heap[k]? = some o) (k : Kept w0 V) : Mq w0 V pg pf pn i cg cf cn := by
  obtain ⟨gs, fs, fl, h1, h2, h3, h4, h5, _⟩ := h
  exact ⟨gs, fs, fl, h1 V hV, h2, h3, h4, h5, k⟩
theorem Mp.low {w w' : World} {pg pf pn : Option Addr} {i cg cf cn : Nat} (h : Mp w w' pg pf pn i cg cf cn) : Kept w w' := by
  obtain ⟨_, _, _, _, _, _, _, _, h⟩ := h
  exact h
theorem prt_pos {g f : List Dc} {l : List Fc} (h : (prt g f l).size = 0) : g = [] := by
  cases g with
  | nil => rfl
  | cons x r =>
    unfold prt dls at h
    simp only [ByteArray.size_append, lsz, List.length_cons, List.length_nil] at h
    omega
/-- How it is printed: by the program, by the reference. -/
theorem Mq.prints {w w1 : World} {pg pf pn : Option Addr} {i cg cf cn : Nat} (h : Mq w w1 pg pf pn i cg cf cn) : ∃ tx : ByteArray,
    (∀ W, Kept w1 W → Calls Tryd.prog 7 #[.agg #[.slice pg i cg, .slice pf i cf, .slice pn i cn]] W fun e w' => e = .returned (.string tx) ∧ Kept W w') ∧
    (∀ W, Kept w1 W → Lds W → Calls Tryd.prog 8 #[.agg #[.slice pg i cg, .slice pf i cf, .slice pn i cn]] W fun e w' => e = .returned (.string tx) ∧ Kept W w') ∧ Kept w w1 := by
  obtain ⟨gs, fs, fl, ⟨hg, hf, hl⟩, hi, og, of, ol, hk⟩ := h
  have i64 : ∀ {t : Int}, 0 ≤ t ∧ t ≤ 3 → I64 t := fun ht => ⟨by omega, by omega⟩
  have dg : Dok gs := ⟨by have := hg.len; omega, fun x hx => (og x hx).1⟩
  have df : Dok fs := ⟨by have := hf.len; omega, fun x hx => (of x hx).1⟩
  have l4 : fl.length ≤ 4 := by have := hl.len; omega
  refine ⟨prt gs fs fl, fun W hW => ?_, fun W hW hL => rprint_walk hL (hg.stay hW.ky) (hf.stay hW.ky) (hl.stay hW.ky) dg df (fun x hx => i64 (og x hx).2) (fun x hx => i64 (of x hx).2) ol l4, hk⟩
  by_cases h0 : (prt gs fs fl).size = 0
  · have e1 := prt_pos h0
    have hi0 : i = 0 := by have := hg.len; rw [e1] at this; exact this.symm
    have ep : prt gs fs fl = ⟨#[]⟩ := by
      have := ByteArray.size_eq_zero_iff.1 h0
      rw [this]; rfl
    rw [ep]
    subst hi0
    exact print_none W pg pf pn cg cf cn
  · exact print_some (hg.stay hW.ky) (hf.stay hW.ky) (hl.stay hW.ky) dg df (fun f hf => (ol f hf).1) l4 h0

set_option maxRecDepth 100000 in
set_option maxHeartbeats 8000000 in
theorem prints_law {w : World} (hL : Lds w) {p : Option Addr} {n c : Nat} {l : List Ev} (hEs : Es w p n c l) :
    Calls Tryd.prog 3 #[.slice p n c] w fun x w' => x = .returned (.bool true) ∧ Kept w w' := by
  have hM : Hid (∀ W, Kept w W → Calls Tryd.prog 5 #[.slice p n c] W fun x w' => ∃ pg pf pn i cg cf cn, x = .returned (.agg #[.slice pg i cg, .slice pf i cf, .slice pn i cn]) ∧ Mp W w' pg pf pn i cg cf cn) := fun W hW => made_prog (hEs.kept hW)
  have hA : Hid (∀ W, Calls Tryd.prog 6 #[] W fun e w' => e = .returned (.bool true) ∧ Kept W w') := awake_walk
  have HL : Hid (Lds w) := hL
  have HZ : Hid ((w.alloc (.cells #[.slice none 0 0, .slice none 0 0, .slice none 0 0] 26)).drew.heap[w.heap.size]? = some (.cells #[.slice none 0 0, .slice none 0 0, .slice none 0 0] 26)) := alloc_at w _
  clear hL hEs
  go_enter Tryd.func3, Tryd.ntmps3
  go_upto_region 2 with (go_at_call 5; (with_reducible refine (hM.out _ (by (repeat (first | assumption | exact Kept.refl _ | apply Kept.drew | apply Kept.alloc)))).mono ?_); rintro x w0 ⟨pg, pf, pn, i, cg, cf, cn, rfl, hmp⟩)
  obtain ⟨h, hh⟩ : ∃ h, h = w0.heap.size := ⟨_, rfl⟩
  obtain ⟨w1, hw1⟩ : ∃ w1, w1 = w0.alloc (.cells #[.slice pg i cg, .slice pf i cf, .slice pn i cn] 26) := ⟨_, rfl⟩
  have hrow : w1.heap[h]? = some (.cells #[.slice pg i cg, .slice pf i cf, .slice pn i cn] 26) := by rw [hw1, hh]; exact alloc_at w0 _
  have hmq : Mq w w1 pg pf pn i cg cf cn := by rw [hw1]; exact hmp.mq (fun k o _ ho => ((Kept.refl w0).alloc _).block ho) ((Kept.trans (by (repeat (first | assumption | exact Kept.refl _ | apply Kept.drew | apply Kept.alloc))) hmp.low).alloc _)
  rw [← hw1, ← hh]
  clear hw1 hh hmp hM HZ
  obtain ⟨tx, hP, hR, hk1⟩ := hmq.prints
  have HP : Hid _ := hP
  have HR : Hid _ := hR
  have HK1 : Hid (Kept w w1) := hk1
  have HX : Hid (∀ W, Kept w1 W → W.cell? ⟨h, 0, none⟩ = some (.slice pg i cg) ∧ W.cell? ⟨h, 1, none⟩ = some (.slice pf i cf) ∧ W.cell? ⟨h, 2, none⟩ = some (.slice pn i cn)) := fun W hW => by
    have hb := hW.block hrow
    exact ⟨by rw [cell_of_row _ _ 0 _ _ _ hb]; rfl, by rw [cell_of_row _ _ 1 _ _ _ hb]; rfl, by rw [cell_of_row _ _ 2 _ _ _ hb]; rfl⟩
  clear hP hR hk1 hrow hmq
  go_region_held3 (fun W => W.cell? ⟨h, 0, none⟩ = some (.slice pg i cg) ∧ W.cell? ⟨h, 1, none⟩ = some (.slice pf i cf) ∧ W.cell? ⟨h, 2, none⟩ = some (.slice pn i cn)) (exact HX.out _ (by (repeat (first | assumption | exact Kept.refl _ | apply Kept.drew | apply Kept.alloc)))) (first
    | (go_at_call 6; (with_reducible refine (hA.out _).mono ?_); rintro e wa ⟨rfl, hka⟩; have hkA : Kept w1 wa := Kept.trans (by (repeat (first | assumption | exact Kept.refl _ | apply Kept.drew | apply Kept.alloc))) hka; clear hka)
    | (go_at_call 7; (with_reducible refine (HP.out _ (by (repeat (first | assumption | exact Kept.refl _ | apply Kept.drew | apply Kept.alloc)))).mono ?_); rintro e wp ⟨rfl, hkp⟩; have hkP : Kept w1 wp := Kept.trans (by (repeat (first | assumption | exact Kept.refl _ | apply Kept.drew | apply Kept.alloc))) hkp; clear hkp)
    | (go_at_call 8; (with_reducible refine (HR.out _ (by (repeat (first | assumption | exact Kept.refl _ | apply Kept.drew | apply Kept.alloc))) (HL.out.kept (HK1.out.trans (by (repeat (first | assumption | exact Kept.refl _ | apply Kept.drew | apply Kept.alloc)))))).mono ?_); rintro e wq ⟨rfl, hkq⟩; have hkQ : Kept w1 wq := Kept.trans (by (repeat (first | assumption | exact Kept.refl _ | apply Kept.drew | apply Kept.alloc))) hkq; clear hkq)
    | fail)
  all_goals go_wp2
  all_goals go_ret
  all_goals exact ⟨rfl, HK1.out.trans (by (repeat (first | assumption | exact Kept.refl _ | apply Kept.drew | apply Kept.alloc)))⟩
end Go.Proofs.YtgdafolidifdoaaDoor.Tp
