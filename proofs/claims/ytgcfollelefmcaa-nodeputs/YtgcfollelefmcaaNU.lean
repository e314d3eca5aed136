/- The walks of a reader's Num and Text, once more: all blocks but the reader's are as they were; node.value. Conditions: the bytes are those of a number, of a text, of a value, and others behind them. -/
import Derived.Test.YtgcfollelefmcaaNT
namespace Go.Proofs.Ytgcfollelefmcaa
open Go.ChangeShapes Go.WideShapes Go.ChangeAt Go.RowKit

/-- All other blocks are as they were. -/
structure Og (b : Nat) (w w' : World) : Prop where
  out : w.grownBy w' (some b)

theorem Og.trans {B : Nat} {a b c : World} (h : Og B a b) (k : Og B b c) : Og B a c :=
  ⟨k.out.os.trans h.out.os, k.out.tape.trans h.out.tape, k.out.output.trans h.out.output, Nat.le_trans h.out.size k.out.size, fun i hi hne => (k.out.block i (Nat.lt_of_lt_of_le hi h.out.size) hne).trans (h.out.block i hi hne)⟩
theorem Og.set (b j : Nat) (w : World) (v : Value) : Og b w (w.setCell ⟨b, j, none⟩ v) := ⟨grown_set w ⟨b, j, none⟩ v⟩
theorem Kept.og {w w' : World} (h : Kept w w') (b : Nat) : Og b w w' := ⟨h.grown _⟩
theorem C4.og {w w' : World} {c b : Nat} {t : TypeId} {a0 a1 a2 a3 : Value} (k : C4 w b t a0 a1 a2 a3) (h : Og c w w') (hb : b ≠ c) : C4 w' b t a0 a1 a2 a3 := k.grown h.out (fun e => hb (by injection e))
theorem C3.og {w w' : World} {c b : Nat} {t : TypeId} {a0 a1 a2 : Value} (k : C3 w b t a0 a1 a2) (h : Og c w w') (hb : b ≠ c) : C3 w' b t a0 a1 a2 := k.grown h.out (fun e => hb (by injection e))
theorem Og.own {w w' : World} {c : Nat} (h : Og c w w') {B : Nat} {e : TypeId} {sz : Nat} {p : Option Addr} {n cc : Nat} {cs : List Value} (k : Own w B e sz p n cc cs) (hb : c < B) : Own w' B e sz p n cc cs := by
  refine ⟨k.out.kept h.out ?_⟩
  cases hq : (Value.slice p n cc).ownBlock with
  | none => exact .inl rfl
  | some g => exact .inr (fun he => by have := (k.out.lt g hq).1; injection he with he; omega)
theorem Og.kept {w W W' : World} {c : Nat} (h : Og c W W') (k : Kept w W) (hb : w.heap.size ≤ c) : Kept w W' := ⟨k.out.grown h.out k.size (fun j hj => by injection hj with hj; omega)⟩

set_option maxRecDepth 100000 in
theorem rnum2 (n : Nat) (hn : n < 18446744073709551616) (t : List Nat) (ht : t.length ≤ 100000) (most : Nat) (hm : n ≤ most) {b : Nat} {w : World} (k : Rd w b (bs (numL n ++ t)) 0) :
    Calls Try.prog 60 #[.pointer (some ⟨b, 0, none⟩), .int .u64 (most : Nat)] w fun e w' => e = .returned (.int .u64 (n : Nat)) ∧ Rd w' b (bs t) 0 ∧ Og b w w' := by
  have h10 := numL_ten n hn
  have c0 := k.c0
  have f0 := k.f0 0
  have e13 := err_walk k
  have e33 := first_walk n hn t ht w
  have hx := bs_rest (numL n) t
  have hsz : (bs (numL n ++ t)).size = (numL n).length + t.length := by rw [bs_size]; simp
  have k2 := k.set0 (bs t)
  have o2 : Og b w (w.setCell ⟨b, 0, none⟩ (.string (bs t))) := Og.set _ _ _ _
  have K2 : Hid (Rd (w.setCell ⟨b, 0, none⟩ (.string (bs t))) b (bs t) 0) := k2
  generalize bs (numL n ++ t) = s at *
  generalize (numL n).length = L at *
  have hls : L ≤ s.size := by omega
  clear k2 hsz k
  go_enter Try.func60, Try.ntmps60
  go_wp2_with (first
    | (go_at_call 75; refine e13.mono ?_; rintro e w' ⟨rfl, rfl⟩)
    | (go_at_call 76; refine e33.mono ?_; rintro e w' ⟨rfl, rfl⟩))
  go_ret
  exact ⟨rfl, K2.out, o2⟩

set_option maxRecDepth 100000 in
theorem take2 (l t : List Nat) (x : Int) {b : Nat} {w : World} (k : Rd w b (bs (l ++ t)) x) :
    Calls Try.prog 78 #[.pointer (some ⟨b, 0, none⟩), .int .i64 (l.length : Nat)] w fun e w' => e = .returned (.string (bs l)) ∧ Rd w' b (bs t) x ∧ Og b w w' := by
  have c0 := k.c0
  have f0 := k.f0 0
  have h1 := bs_front l t
  have hx := bs_rest l t
  have hsz : (bs (l ++ t)).size = l.length + t.length := by rw [bs_size]; simp
  have k2 := k.set0 (bs t)
  have o2 : Og b w (w.setCell ⟨b, 0, none⟩ (.string (bs t))) := Og.set _ _ _ _
  have K2 : Hid (Rd (w.setCell ⟨b, 0, none⟩ (.string (bs t))) b (bs t) x) := k2
  generalize bs (l ++ t) = s at *
  have hls : l.length ≤ s.size := by omega
  clear k2 k hsz
  generalize l.length = L at *
  go_enter Try.func78, Try.ntmps78
  go_wp2
  go_ret
  exact ⟨rfl, K2.out, o2⟩

set_option maxRecDepth 100000 in
theorem rtext2_64 (l t : List Nat) (hl : l.length ≤ 64) (ht : t.length ≤ 10000) {b : Nat} {w : World} (k : Rd w b (bs (numL l.length ++ (l ++ t))) 0) :
    Calls Try.prog 61 #[.pointer (some ⟨b, 0, none⟩), .int .i64 64] w fun e w' => e = .returned (.string (bs l)) ∧ Rd w' b (bs t) 0 ∧ Og b w w' := by
  have h11 := rnum2 l.length (by omega) (l ++ t) (by simp; omega) 64 hl k
  have h21 := @take2 l t 0 b
  generalize bs (l ++ t) = s2 at *
  generalize l.length = L at *
  go_enter Try.func61, Try.ntmps61
  go_wp2_with (first
    | (go_at_call 60; refine h11.mono ?_; rintro e w1 ⟨rfl, k1, o1⟩)
    | (go_at_call 78; refine (h21 k1).mono ?_; rintro e w2 ⟨rfl, k2, o2⟩))
  go_ret
  exact ⟨rfl, k2, o1.trans o2⟩

set_option maxRecDepth 100000 in
theorem rtext2_48 (l t : List Nat) (hl : l.length ≤ 48) (ht : t.length ≤ 10000) {b : Nat} {w : World} (k : Rd w b (bs (numL l.length ++ (l ++ t))) 0) :
    Calls Try.prog 61 #[.pointer (some ⟨b, 0, none⟩), .int .i64 48] w fun e w' => e = .returned (.string (bs l)) ∧ Rd w' b (bs t) 0 ∧ Og b w w' := by
  have h11 := rnum2 l.length (by omega) (l ++ t) (by simp; omega) 48 hl k
  have h21 := @take2 l t 0 b
  generalize bs (l ++ t) = s2 at *
  generalize l.length = L at *
  go_enter Try.func61, Try.ntmps61
  go_wp2_with (first
    | (go_at_call 60; refine h11.mono ?_; rintro e w1 ⟨rfl, k1, o1⟩)
    | (go_at_call 78; refine (h21 k1).mono ?_; rintro e w2 ⟨rfl, k2, o2⟩))
  go_ret
  exact ⟨rfl, k2, o1.trans o2⟩


/-- A text of such bytes is read. -/
theorem rt64 (s : ByteArray) (hs : s.size ≤ 64) (t : List Nat) (ht : t.length ≤ 10000) {b : Nat} {w : World} (k : Rd w b (bs (keyN s ++ t)) 0) :
    Calls Try.prog 61 #[.pointer (some ⟨b, 0, none⟩), .int .i64 64] w fun e w' => e = .returned (.string s) ∧ Rd w' b (bs t) 0 ∧ Og b w w' := by
  have a := rtext2_64 (un s) t (by rw [un_length]; exact hs) ht (b := b) (w := w) (by rw [un_length]; unfold keyN at k; rwa [List.append_assoc] at k)
  rwa [bs_un] at a
theorem rt48 (s : ByteArray) (hs : s.size ≤ 48) (t : List Nat) (ht : t.length ≤ 10000) {b : Nat} {w : World} (k : Rd w b (bs (keyN s ++ t)) 0) :
    Calls Try.prog 61 #[.pointer (some ⟨b, 0, none⟩), .int .i64 48] w fun e w' => e = .returned (.string s) ∧ Rd w' b (bs t) 0 ∧ Og b w w' := by
  have a := rtext2_48 (un s) t (by rw [un_length]; exact hs) ht (b := b) (w := w) (by rw [un_length]; unfold keyN at k; rwa [List.append_assoc] at k)
  rwa [bs_un] at a

set_option maxHeartbeats 1000000 in
set_option maxRecDepth 100000 in
theorem value_walk (v : Vl) (hv : Okv v) (t : List Nat) (ht : t.length ≤ 9000) {b : Nat} {w : World} (k : Rd w b (bs (valN v ++ t)) 0) :
    Calls Try.prog 62 #[.pointer (some ⟨b, 0, none⟩)] w fun e w' => e = .returned (.agg #[.string v.d, .int .i64 v.p, .int .i64 v.l]) ∧ Rd w' b (bs t) 0 ∧ Og b w w' := by
  have hbl := k.lt
  have k0 := ((Kept.refl w).alloc (.cells #[.string ⟨#[]⟩, .int .i64 0, .int .i64 0] 49)).rd k
  have R0 := C3.alloc w 49 (.string ⟨#[]⟩) (.int .i64 0) (.int .i64 0)
  have o0 := ((Kept.refl w).alloc (.cells #[.string ⟨#[]⟩, .int .i64 0, .int .i64 0] 49)).og b
  obtain ⟨d, p, ln⟩ := v
  rcases hv with ⟨h1, h2, h3⟩ | ⟨h1, p', l', h2, h3, h4, h5, h6⟩
  · simp only at h1 h2 h3
    subst h1; subst h2
    have e2 : valN ⟨d, -1, 0⟩ ++ t = numL 0 ++ (keyN d ++ t) := by unfold valN keyN; rw [if_pos (by show (-1 : Int) < 0; decide), List.append_assoc]
    rw [e2] at k0
    have z := keyN_length d (by omega)
    have a1 := rnum2 0 (by decide) (keyN d ++ t) (by rw [List.length_append]; omega) 1 (by decide) k0
    have a2 := fun W => @rt48 d h3 t (by omega) b W
    have hne : ¬ (w.heap.size = b) := by omega
    have A1 : Calls Try.prog 60 #[.pointer (some ⟨b, 0, none⟩), .int .u64 1] (w.alloc (.cells #[.string ⟨#[]⟩, .int .i64 0, .int .i64 0] 49)) fun e w' => e = .returned (.int .u64 0) ∧ Rd w' b (bs (keyN d ++ t)) 0 ∧ Og b (w.alloc (.cells #[.string ⟨#[]⟩, .int .i64 0, .int .i64 0] 49)) w' := a1
    have A2 : Hid (∀ W, Rd W b (bs (keyN d ++ t)) 0 → Calls Try.prog 61 #[.pointer (some ⟨b, 0, none⟩), .int .i64 48] W fun e w' => e = .returned (.string d) ∧ Rd w' b (bs t) 0 ∧ Og b W w') := a2
    clear a1 a2 k0 k e2
    go_enter Try.func62, Try.ntmps62
    go_wp2_with (first
      | (go_at_call 60
         (with_reducible refine A1.mono ?_)
         rintro e v1 ⟨rfl, r1, o1⟩)
      | (go_at_call 61
         (with_reducible refine (A2.out _ r1).mono ?_)
         rintro e v2 ⟨rfl, r2, o2⟩
         have R2 := R0.og (o1.trans o2) hne
         obtain ⟨⟨g0, f0⟩, ⟨g1, f1⟩, ⟨g2, f2⟩, hfin⟩ := ready3 R2.out (.string d) (.int .i64 (-1)) (.int .i64 0)))
    have q1 : Rd (((v2.setCell ⟨w.heap.size, 0, none⟩ (.string d)).setCell ⟨w.heap.size, 1, none⟩ (.int .i64 (-1))).setCell ⟨w.heap.size, 2, none⟩ (.int .i64 0)) b (bs t) 0 := ⟨(others3 v2 (by omega) _ _ _).trans r2.out⟩
    generalize hW : (((v2.setCell ⟨w.heap.size, 0, none⟩ (.string d)).setCell ⟨w.heap.size, 1, none⟩ (.int .i64 (-1))).setCell ⟨w.heap.size, 2, none⟩ (.int .i64 0)) = WF at hfin q1 ⊢
    refine bodyPost_ret (v := .agg #[.string d, .int .i64 (-1), .int .i64 0]) ?_ rfl ⟨rfl, q1, ?_⟩
    · exact results_cell_row (p := 2) rfl _ _ w.heap.size 49 #[.string d, .int .i64 (-1), .int .i64 0] (0, 0) _ rfl hfin Try.underlying49 rfl size49
    · have o12 := o1.trans o2
      rw [← hW]
      refine ⟨o12.out.os, o12.out.tape, o12.out.output, ?_, ?_⟩
      · rw [size_set, size_set, size_set]; exact ((o0.trans o12)).out.size
      · intro j hj hne2
        rw [others3 v2 (by omega) _ _ _]
        exact (o0.trans o12).out.block j hj hne2
  · simp only at h1 h2 h4
    subst h1; subst h2; subst h4
    have e2 : valN ⟨⟨#[]⟩, (p' : Int), (l' : Int)⟩ ++ t = numL 1 ++ (numL p' ++ (numL l' ++ t)) := by unfold valN; rw [if_neg (by show ¬ (p' : Int) < 0; omega)]; simp
    rw [e2] at k0
    have z1 := num_small p' (by omega)
    have z2 := num_small l' (by omega)
    have a1 := rnum2 1 (by decide) (numL p' ++ (numL l' ++ t)) (by simp; omega) 1 (by decide) k0
    have a2 := fun W => @rnum2 p' (by omega) (numL l' ++ t) (by simp; omega) 16383 (by omega) b W
    have a3 := fun W => @rnum2 l' (by omega) t (by omega) 65536 (by omega) b W
    have hne : ¬ (w.heap.size = b) := by omega
    have u1 : IntKind.i64.wrap (p' : Int) = (p' : Int) := by rw [IntKind.wrap_i64]; omega
    have u2 : IntKind.i64.wrap (l' : Int) = (l' : Int) := by rw [IntKind.wrap_i64]; omega
    have A1 : Calls Try.prog 60 #[.pointer (some ⟨b, 0, none⟩), .int .u64 1] (w.alloc (.cells #[.string ⟨#[]⟩, .int .i64 0, .int .i64 0] 49)) fun e w' => e = .returned (.int .u64 1) ∧ Rd w' b (bs (numL p' ++ (numL l' ++ t))) 0 ∧ Og b (w.alloc (.cells #[.string ⟨#[]⟩, .int .i64 0, .int .i64 0] 49)) w' := a1
    have A2 : Hid (∀ W, Rd W b (bs (numL p' ++ (numL l' ++ t))) 0 → Calls Try.prog 60 #[.pointer (some ⟨b, 0, none⟩), .int .u64 16383] W fun e w' => e = .returned (.int .u64 (p' : Nat)) ∧ Rd w' b (bs (numL l' ++ t)) 0 ∧ Og b W w') := a2
    have A3 : Hid (∀ W, Rd W b (bs (numL l' ++ t)) 0 → Calls Try.prog 60 #[.pointer (some ⟨b, 0, none⟩), .int .u64 65536] W fun e w' => e = .returned (.int .u64 (l' : Nat)) ∧ Rd w' b (bs t) 0 ∧ Og b W w') := a3
    clear a1 a2 a3 k0 k e2
    go_enter Try.func62, Try.ntmps62
    go_wp2_with (first
      | (go_at_call 60
         (with_reducible refine A1.mono ?_)
         rintro e v1 ⟨rfl, r1, o1⟩)
      | (go_at_call 60
         (with_reducible refine (A2.out _ r1).mono ?_)
         rintro e v2 ⟨rfl, r2, o2⟩)
      | (go_at_call 60
         (with_reducible refine (A3.out _ r2).mono ?_)
         rintro e v3 ⟨rfl, r3, o3⟩
         have R2 := R0.og ((o1.trans o2).trans o3) hne
         obtain ⟨⟨g0, f0⟩, ⟨g1, f1⟩, ⟨g2, f2⟩, hfin⟩ := ready3 R2.out (.string ⟨#[]⟩) (.int .i64 (p' : Nat)) (.int .i64 (l' : Nat))))
    have q1 : Rd (((v3.setCell ⟨w.heap.size, 0, none⟩ (.string ⟨#[]⟩)).setCell ⟨w.heap.size, 1, none⟩ (.int .i64 (p' : Nat))).setCell ⟨w.heap.size, 2, none⟩ (.int .i64 (l' : Nat))) b (bs t) 0 := ⟨(others3 v3 (by omega) _ _ _).trans r3.out⟩
    generalize hW : (((v3.setCell ⟨w.heap.size, 0, none⟩ (.string ⟨#[]⟩)).setCell ⟨w.heap.size, 1, none⟩ (.int .i64 (p' : Nat))).setCell ⟨w.heap.size, 2, none⟩ (.int .i64 (l' : Nat))) = WF at hfin q1 ⊢
    refine bodyPost_ret (v := .agg #[.string ⟨#[]⟩, .int .i64 (p' : Nat), .int .i64 (l' : Nat)]) ?_ rfl ⟨rfl, q1, ?_⟩
    · exact results_cell_row (p := 2) rfl _ _ w.heap.size 49 #[.string ⟨#[]⟩, .int .i64 (p' : Nat), .int .i64 (l' : Nat)] (0, 0) _ rfl hfin Try.underlying49 rfl size49
    · have o12 := (o1.trans o2).trans o3
      rw [← hW]
      refine ⟨o12.out.os, o12.out.tape, o12.out.output, ?_, ?_⟩
      · rw [size_set, size_set, size_set]; exact ((o0.trans o12)).out.size
      · intro j hj hne2
        rw [others3 v3 (by omega) _ _ _]
        exact (o0.trans o12).out.block j hj hne2
end Go.Proofs.Ytgcfollelefmcaa
