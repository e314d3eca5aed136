/- The walk of the law on no cache. No condition. -/
import Derived.Test.YtbpelhfbgjplbaaJU
namespace Go.Proofs.Ytbpelhfbgjplbaa.Ca
open Go.ChangeShapes Go.WideShapes Go.ChangeAt Go.RowKit
open N (Kept)
open Q (kept_cell Kv Vn Km m_get m_put m_del Own sc one_cellA one_str)

/-- A token that an arm of a walk takes away. -/
structure Tok (k : Nat) : Prop where
  out : True

set_option maxRecDepth 100000 in
set_option maxHeartbeats 1500000 in
theorem none_law (k t : ByteArray) (w : World) : Calls Try.prog 5 #[.string k, .string t] w fun e w' => e = .returned (.bool true) ∧ Kept w w' := by
  have n1 := get_idle (idle_nil w) k
  have n2 := del_idle (idle_nil w) k
  have n3 := cost_nil w
  have n4 := new_nil w 5 5 (by decide)
  have H4 : Hid (∀ w', w' = (nw4 w).alloc (.cells #[.nilIface, .int .i64 ((5 : Nat) : Int), .map (some (w.heap.size + 1)), .map (some (w.heap.size + 2)), .pointer (some ⟨w.heap.size, 0, none⟩), .int .i64 0, .int .i64 0] 59) → Kept w w' ∧ Calls Try.prog 9 #[.pointer (some ⟨w.heap.size + 3, 0, none⟩), .string k] w' (fun r w2 => r = .returned (.tuple #[.string ⟨#[]⟩, .bool false, .int .i64 1]) ∧ w2 = w')) := by
    intro w' hw
    have s4 : (nw4 w).heap.size = w.heap.size + 3 := by
      unfold nw4; rw [Q.size_alloc, Q.size_alloc, nw2_size]
    have hb := heap_alloc_new (nw4 w) (.cells #[.nilIface, .int .i64 ((5 : Nat) : Int), .map (some (w.heap.size + 1)), .map (some (w.heap.size + 2)), .pointer (some ⟨w.heap.size, 0, none⟩), .int .i64 0, .int .i64 0] 59)
    rw [s4, ← hw] at hb
    refine ⟨?_, get_idle (idle_nokv (by rw [cell_of_row w' _ 0 _ _ _ hb]; rfl)) k⟩
    rw [hw]
    exact ((((nw2_kept w).alloc _).alloc _)).alloc _
  have HU : Hid (∀ w4 : World, Calls Try.prog 6 #[.iface 23 (.pointer (some ⟨w4.heap.size, 0, none⟩)), .int .i64 5] (w4.alloc (.cells #[.slice none 0 0, .slice none 0 0] 26)) (fun r w' => ∃ P q, r = .returned (.pointer (some ⟨P, 0, none⟩)) ∧ Us NE w' w4.heap.size P 5 w4.heap.size 0 q [] (fun _ => none) ∧ (q.r = 0 ∧ q.x = 0) ∧ Kept (w4.alloc (.cells #[.slice none 0 0, .slice none 0 0] 26)) w')) := fun w4 => new_us (Q.kv_new w4) ((Kept.refl w4).alloc _).size 5 (m := 5) (by decide) (by omega) (by omega)
  have mt1 : ∀ W : World, ∃ w1 s, (Instr.makeSlice 50 (.int .i64 65) (.int .i64 65)).run Try.prog W = .ok (.slice (some ⟨W.heap.size, 0, none⟩) 65 65) w1 ∧ (convert 50 9 (.slice (some ⟨W.heap.size, 0, none⟩) 65 65)).run Try.prog w1 = .ok (.string s) w1 ∧ s.size = 65 ∧ Kept W w1 := fun W => made_text 65 (by omega) W
  have mt2 : ∀ W : World, ∃ w1 s, (Instr.makeSlice 50 (.int .i64 65537) (.int .i64 65537)).run Try.prog W = .ok (.slice (some ⟨W.heap.size, 0, none⟩) 65537 65537) w1 ∧ (convert 50 9 (.slice (some ⟨W.heap.size, 0, none⟩) 65537 65537)).run Try.prog w1 = .ok (.string s) w1 ∧ s.size = 65537 ∧ Kept W w1 := fun W => made_text 65537 (by omega) W
  have M2 : Hid (∀ W : World, ∃ w1 s, (Instr.makeSlice 50 (.int .i64 65537) (.int .i64 65537)).run Try.prog W = .ok (.slice (some ⟨W.heap.size, 0, none⟩) 65537 65537) w1 ∧ (convert 50 9 (.slice (some ⟨W.heap.size, 0, none⟩) 65537 65537)).run Try.prog w1 = .ok (.string s) w1 ∧ s.size = 65537 ∧ Kept W w1) := mt2
  have M1 : Hid (∀ W : World, ∃ w1 s, (Instr.makeSlice 50 (.int .i64 65) (.int .i64 65)).run Try.prog W = .ok (.slice (some ⟨W.heap.size, 0, none⟩) 65 65) w1 ∧ (convert 50 9 (.slice (some ⟨W.heap.size, 0, none⟩) 65 65)).run Try.prog w1 = .ok (.string s) w1 ∧ s.size = 65 ∧ Kept W w1) := mt1
  clear mt1 mt2
  go_enter Try.func5, Try.ntmps5
  go_wp2_with (first
    | (go_at_call 9; (with_reducible refine n1.mono ?_); rintro e w1 ⟨rfl, hw1⟩; rw [hw1]; clear hw1 n1)
    | (go_at_call 10; (with_reducible refine n2.mono ?_); rintro e w1 ⟨rfl, hw1⟩; rw [hw1]; clear hw1 n2)
    | (go_at_call 17; (with_reducible refine n3.mono ?_); rintro e w1 ⟨rfl, hw1⟩; rw [hw1]; clear hw1 n3)
    | (go_at_call 6; (with_reducible refine n4.mono ?_); rintro e w4 ⟨rfl, hw4⟩; have H5 := H4.out w4 hw4; have K4 : Hid (Kept w w4) := H5.1; have n5 := H5.2; have n6 := HU.out w4; clear hw4 n4 H5 H4)
    | (go_at_call 9; (with_reducible refine n5.mono ?_); rintro e w5 ⟨rfl, hw5⟩; rw [hw5]; clear hw5 n5)
    | (go_at_call 6; (with_reducible refine n6.mono ?_); rintro e w6 ⟨P, q6, rfl, u6, _, k6⟩; have K6 : Hid (Kept w w6) := (K4.out.alloc _).trans k6; have U6 : Hid (Us NE w6 w4.heap.size P 5 w4.heap.size 0 q6 [] (fun _ => none)) := u6; obtain ⟨w7, s7, mk7, cv7, sz7, k7⟩ := M1.out w6; obtain ⟨f7, m7, _⟩ := (u6.kept k7).cm; have n7 := put_key m7.cb s7 ⟨#[]⟩ (by omega); have K7 : Hid (Kept w6 w7) := k7; obtain ⟨w8, s8, mk8, cv8, sz8, k8⟩ := M2.out w7; obtain ⟨f8, m8, _⟩ := ((u6.kept k7).kept k8).cm; have n8 := put_text m8.cb ⟨#[97]⟩ s8 (by decide) (by omega); have K8 : Hid (Kept w7 w8) := k8; have n9 := awake_walk w8; clear k6 k7 k8 m7 m8 sz7 sz8 n6 u6)
    | (go_at_call 14; (with_reducible refine n7.mono ?_); rintro e w9 ⟨rfl, hw9⟩; rw [hw9]; clear hw9 n7)
    | (go_at_call 14; (with_reducible refine n8.mono ?_); rintro e w9 ⟨rfl, hw9⟩; rw [hw9]; clear hw9 n8)
    | (go_at_call 7; (with_reducible refine n9.mono ?_); rintro e w9 ⟨rfl, k9⟩; have K9 : Hid (Kept w8 w9) := k9; have n10 := put_idle (idle_nil w9) k t; have n11 := sync_idle (idle_nil w9); have n12 := held_nil w9; have n13 := Us.held (((U6.out.kept K7.out).kept K8.out).kept k9); clear k9 n9)
    | (go_at_call 14; (with_reducible refine n10.mono ?_); rintro e w10 ⟨rfl, hw10⟩; rw [hw10]; clear hw10 n10)
    | (go_at_call 12; (with_reducible refine n11.mono ?_); rintro e w10 ⟨rfl, hw10⟩; rw [hw10]; clear hw10 n11)
    | (go_at_call 16; (with_reducible refine n12.mono ?_); rintro e w10 ⟨rfl, hw10⟩; rw [hw10]; clear hw10 n12)
    | (go_at_call 16; (with_reducible refine n13.mono ?_); rintro e w10 ⟨rfl, hw10⟩; rw [hw10]; clear hw10 n13))
  go_ret
  exact ⟨rfl, ((K6.out.trans K7.out).trans K8.out).trans K9.out⟩
end Go.Proofs.Ytbpelhfbgjplbaa.Ca
