/- The walks of awake, and of the law on no cache. No condition but those that each row names. -/
import Derived.Laws.BytesArg
import Derived.Test.YtbpelhfbgjplbaaJT
namespace Go.Proofs.Ytbpelhfbgjplbaa.Ca
open Go.ChangeShapes Go.WideShapes Go.ChangeAt Go.RowKit
open N (Kept)
open Q (kept_cell Kv Vn Km m_get m_put m_del Own sc one_cellA one_str)
variable {E : Nat → Prop} {X : List En}

/-- A cache just made. -/
theorem new_us {w : World} {B b n m : Nat} {f : ByteArray → Option ByteArray} (kv : Kv NE w B b n f) (hB : B ≤ w.heap.size) (most : Int) (hm : max most 1 = (m : Nat)) (h900 : m ≤ 900) (hn : n ≤ 90000) :
    Calls Try.prog 6 #[.iface 23 (.pointer (some ⟨b, 0, none⟩)), .int .i64 most] w fun r w' => ∃ P q, r = .returned (.pointer (some ⟨P, 0, none⟩)) ∧ Us NE w' B P m b n q [] f ∧ (q.r = 0 ∧ q.x = 0) ∧ Kept w w' := by
  refine (new_kv w _ _ most m hm).mono ?_
  rintro r w' ⟨rfl, rfl⟩
  obtain ⟨h1, h2⟩ := us_new (m := m) kv hB (by omega) h900 hn
  exact ⟨_, _, rfl, h1, ⟨rfl, rfl⟩, h2⟩
theorem Us.held {w : World} {B p m kb n : Nat} {q : Cc} {es : List En} {F : ByteArray → Option ByteArray} (h : Us E w B p m kb n q es F) : Calls Try.prog 16 #[.pointer (some ⟨p, 0, none⟩)] w fun r w' => r = .returned (.int .i64 (es.length : Nat)) ∧ w' = w := by
  obtain ⟨f, M, _⟩ := h.cm
  exact held_walk M.cb M.hm
theorem Us.kept {w w' : World} {B p m kb n : Nat} {q : Cc} {es : List En} {F : ByteArray → Option ByteArray} (h : Us E w B p m kb n q es F) (k : Kept w w') : Us E w' B p m kb n q es F := by
  obtain ⟨f, M, iv⟩ := h.cm
  exact ⟨⟨f, M.kept k, iv⟩, h.m', h.b', h.one, h.len, h.most, h.few⟩
theorem Fd.us {w w' : World} {B p m kb n : Nat} {q q' : Cc} {es es1 : List En} {x : En} {F : ByteArray → Option ByteArray} {k : ByteArray} (h : Fd E w w' B p m n q q' es es1 x F k) (u : Us E w B p m kb n q es F) (hn : n + 1 ≤ 90000) : ∃ n', n' ≤ n + 1 ∧ Us E w' B p m kb n' q' (es1 ++ [x]) F := by
  obtain ⟨n', f', a, M, iv⟩ := h.cm
  exact ⟨n', a, ⟨⟨f', M, iv⟩, h.m'.1.trans u.m', h.m'.2.trans u.b', u.one, h.len, u.most, by omega⟩⟩

set_option maxRecDepth 100000 in
set_option maxHeartbeats 1000000 in
theorem awake_walk (w : World) : Calls Try.prog 7 #[] w fun e w' => e = .returned (.bool true) ∧ Kept w w' := by
  have kA : Kept w (w.alloc (.cells #[.slice none 0 0, .slice none 0 0] 26)) := (Kept.refl w).alloc _
  have hn := new_us (Q.kv_new w) kA.size 2 (m := 2) (by decide) (by omega) (by omega)
  go_enter Try.func7, Try.ntmps7
  go_wp2_with (first
    | (go_at_call 6; (with_reducible refine hn.mono ?_); rintro e w1 ⟨P, q1, rfl, u1, _, k1⟩; have K1 : Hid (Kept w w1) := kA.trans k1; have U1 : Hid (Us NE w1 w.heap.size P 2 w.heap.size 0 q1 [] (fun _ => none)) := u1; have hp := put_walk u1 ⟨#[97]⟩ ⟨#[49]⟩ (by decide) (by decide); clear k1 u1 hn)
    | (go_at_call 14; (with_reducible refine hp.mono ?_); rintro e w2 ⟨rfl, a2⟩; obtain ⟨q2, es2, n2, hn2, u2, ks2⟩ := a2.us U1.out (by omega); have V2 : Hid (Vc NE w.heap.size w1 w2) := a2.vc; have KS : Hid (es2.map (·.k) = tk 2 [] ⟨#[97]⟩) := ks2; have hg := get_walk u2 ⟨#[97]⟩ (by decide); rw [Q.put_eq] at hg; have hg2 : Calls Try.prog 9 #[.pointer (some ⟨P, 0, none⟩), .string ⟨#[97]⟩] w2 (fun r w' => r = .returned (.tuple #[.string ⟨#[49]⟩, .bool true, .int .i64 0]) ∧ _) := hg; have U2 : Hid _ := u2; have HN2 : Hid (n2 ≤ 0 + 1) := hn2; clear a2 hp hg u2 ks2 hn2)
    | (go_at_call 9; (with_reducible refine hg2.mono ?_); rintro e w3 ⟨rfl, x, es1, q3, ff⟩; have V3 : Hid (Vc NE w.heap.size w2 w3) := ff.vc; have hl3 : (es1 ++ [x]).length = 1 := (by rw [← List.length_map (f := fun y : En => y.k), ff.keys, KS.out]; simp [tk]); obtain ⟨n3, hn3, u3⟩ := ff.us U2.out (by have := HN2.out; omega); have hh := u3.held; rw [hl3] at hh; have hh2 : Calls Try.prog 16 #[.pointer (some ⟨P, 0, none⟩)] w3 (fun r w' => r = .returned (.int .i64 1) ∧ w' = w3) := hh; clear ff hg2 u3 hh hl3 hn3)
    | (go_at_call 16; (with_reducible refine hh2.mono ?_); rintro e w4 ⟨rfl, hw4⟩; rw [hw4]; clear hw4 hh2))
  go_ret
  exact ⟨rfl, (Vc.kept (E := NE) ((Vc.of K1.out (Nat.le_refl _)).trans (V2.out.trans V3.out)))⟩

theorem info5 : (Try.prog.info? 5).map (fun i => (i.zero, i.size, i.bytes)) = some (some (.int .u8 0), 1, 1) := by kernel_rfl
/-- A text of noughts, made. -/
theorem made_text (n : Nat) (hn : n ≤ 100000) (W : World) : ∃ w1 s, (Instr.makeSlice 50 (.int .i64 (n : Nat)) (.int .i64 (n : Nat))).run Try.prog W = .ok (.slice (some ⟨W.heap.size, 0, none⟩) n n) w1 ∧ (convert 50 9 (.slice (some ⟨W.heap.size, 0, none⟩) n n)).run Try.prog w1 = .ok (.string s) w1 ∧ s.size = n ∧ Kept W w1 := by
  obtain ⟨i, hi, hz, hs, hby⟩ := info_parts info5
  obtain ⟨w1, mk, ow, gw⟩ := run_makeSlice_full (P := Try.prog) W W.heap.size 50 5 i _ 1 Try.underlying50 hi hz hs .i64 .i64 n (by omega) (by rw [hby]; omega) (by unfold maxLen; omega) (Nat.le_refl _)
  have hc : (convert 50 9 (.slice (some ⟨W.heap.size, 0, none⟩) n n)).run Try.prog w1 = .ok (.string (strOfNums (List.replicate n 0))) w1 := by
    refine run_convert_bytes_arg w1 50 5 Try.underlying50 Try.underlying5 W.heap.size 0 n n (List.replicate n (0 : Int)) (by simp) (fun j hj => ?_) 9 Try.underlying9
    have e : (madeCells #[Value.int .u8 0] (n * 1)).toList = List.replicate n (Value.int .u8 0) := by rw [toList_madeCells_one, Nat.mul_one]
    have ow' : w1.ownsRow W.heap.size 5 1 (.slice (some ⟨W.heap.size, 0, none⟩) n n) n (List.replicate n (Value.int .u8 0)) := by rw [← e]; exact ow
    have := ow'.cellAt j (by omega)
    rw [Nat.zero_add, this]
    simp [List.getD, hj]
  refine ⟨w1, _, mk, hc, ?_, ⟨(Below.refl _ W).grown gw (Nat.le_refl _) (fun _ e => by cases e)⟩⟩
  unfold strOfNums
  simp [ByteArray.size]
end Go.Proofs.Ytbpelhfbgjplbaa.Ca
