/- The bytes of a set in plain words; the walk of Put. Conditions: those that each row names. -/
import Derived.Test.YtanccfbbaeocaaaLX
namespace Go.Proofs.Ytanccfbbaeocaaa.Bt
open Go.RowKit Go.Shelf
open N (bs bs_size bs_append un Small numL fixL cellsOf numL_small fixL_small fixL_length numL_ten)

/-- The bytes of parts, when next is the first one that may come. -/
def prt : Nat → List Pt → List Nat
  | _, [] => []
  | k, p :: r => numL (p.1 - k) ++ (fixL p.2 8 ++ prt (p.1 + 1) r)
def putL (P : List Pt) : List Nat := numL P.length ++ prt 0 P
/-- Where the next part may be, behind some. -/
def nxt (P : List Pt) (i : Nat) : Nat := match i with | 0 => 0 | j + 1 => match P[j]? with | some p => p.1 + 1 | none => 0
theorem prt_small : ∀ (k : Nat) (P : List Pt), Small (prt k P)
  | _, [] => fun x hx => by cases hx
  | k, p :: r => (numL_small _).append ((fixL_small _ _).append (prt_small _ r))
theorem putL_small (P : List Pt) : Small (putL P) := (numL_small _).append (prt_small _ _)
theorem prt_drop {P : List Pt} {i : Nat} {x : Pt} (h : P[i]? = some x) : prt (nxt P i) (P.drop i) = numL (x.1 - nxt P i) ++ (fixL x.2 8 ++ prt (nxt P (i + 1)) (P.drop (i + 1))) := by
  rw [drop_at h, prt]
  simp only [nxt, h]
theorem nxt_le {P : List Pt} (hP : Okp P) {i : Nat} {x : Pt} (h : P[i]? = some x) : nxt P i ≤ x.1 := by
  cases i with
  | zero => exact Nat.zero_le _
  | succ j =>
    unfold nxt
    simp only
    split
    · rename_i p hp; exact okp_lt hP hp h (by omega)
    · exact Nat.zero_le _
theorem prt_len : ∀ (k : Nat) (P : List Pt), Okp P → (prt k P).length ≤ P.length * 18
  | _, [], _ => Nat.le_refl _
  | k, p :: r, h => by
    rw [prt, List.length_append, List.length_append, fixL_length, List.length_cons]
    have h1 := numL_ten (p.1 - k) (by have := (h.may p List.mem_cons_self).1; omega)
    have h2 := prt_len (p.1 + 1) r h.tail
    omega
theorem kOf8 : N.kOf 8 = 8 := by decide
theorem wpList_app {P : Program} {w w' : World} {ops : Array Oper} {rest : List Oper} {o : Oper} {a : Go.Act} {Q : Exit → Go.Act → World → Prop} (hgd : o.guard = none) (sl x : Operand) (t u : TypeId)
    (ho : o.op = .call { callee := .builtin .append, args := #[sl, x], argTypes := #[t, u] }) (v v' xv : Value) (hs : a.eval sl = v) (hx : a.eval x = xv) (hr : (Builtin.append_ #[t, u] o.type #[v, xv]).run P w = .ok v' w')
    (h : wpList P ops Q rest (a.put o.dst v') w') : wpList P ops Q (o :: rest) a w := by
  refine wpList_plain hgd fun K hK => ?_
  unfold Oper.wp execOp
  simp only [ho, resolve, invoke, builtin, Sem.run_bind, Sem.run_pure, Result.andThen_ok, List.map_toArray, List.map_cons, List.map_nil, hs, hx, hr]
  exact hK _ _ h
theorem rm_grown {w W w' : World} {v : Value} {l : List Nat} (k : Kept w W) (h : Rm W w.heap.size v l) (hg : W.grownBy w' v.ownBlock) : Kept w w' := grown_kept w k hg (Nat.le_refl _) h.blk

set_option maxRecDepth 100000 in
set_option maxHeartbeats 4000000 in
theorem put_walk {w : World} {p : Option Addr} {n c : Nat} {P : List Pt} (h : St w p n c P) (hn : n ≤ 200) :
    Calls Try.prog 5 #[.agg #[.slice p n c]] w fun e w' => e = .returned (.string (bs (putL P))) ∧ Kept w w' := by
  have k0 : Kept w (w.alloc (.cells #[.slice p n c] 25)) := (Kept.refl w).alloc _
  have H : Hid (St w p n c P) := h
  have HL : Hid (P.length = n) := h.len
  have HPl : Hid ((prt 0 P).length ≤ n * 18) := by have := prt_len 0 P h.ok; rw [h.len] at this; exact this
  have f1 := fun W => N.num_walk n (by omega) W
  have HC : Hid (∀ W, Kept w W → W.heap[w.heap.size]? = some (.cells #[.slice p n c] 25) → W.cell? ⟨w.heap.size, 0, none⟩ = some (.slice p n c)) := fun W _ hb => by rw [cell_of_row _ _ 0 _ _ _ hb]; rfl
  have HM : Hid (∀ W, ∃ v w', (convert 9 38 (.string (bs (numL n)))).run Try.prog W = .ok v w' ∧ Rm w' W.heap.size v (numL n) ∧ Kept W w') := fun W => rm_made W (numL_small _) (by have := numL_ten n (by omega); omega)
  clear h
  go_enter Try.func5, Try.ntmps5
  go_wp2_with (go_at_call 12; (with_reducible refine (f1 _).mono ?_); clear f1; rintro e w1 ⟨rfl, k1⟩; obtain ⟨v0, w2, hcv, R2, k2⟩ := HM.out w1; have k02 : Kept (w.alloc (.cells #[.slice p n c] 25)) w2 := Kept.trans ⟨k1.out⟩ k2; have c2 : w2.cell? ⟨w.heap.size, 0, none⟩ = some (.slice p n c) := (by rw [cell_of_row _ _ 0 _ _ _ (k02.block (alloc_at w _))]; rfl); have HR2 : Hid (Rm w2 w.heap.size v0 (numL n) ∧ Kept w w2) := ⟨(by obtain ⟨g, cap, cur, fz, a1, a2, a3⟩ := R2.out; exact ⟨g, cap, cur, fz, a1, Nat.le_trans (k0.trans ⟨k1.out⟩).size a2, a3⟩), k0.trans k02⟩; clear R2 k1 k2 k02)
  go_loopg [3, 4, 16] n (fun gg s3 s4 s16 wr => ∃ (i nx : Nat) (l : List Nat) (g cap : Nat), s3 = .slice (some ⟨g, 0, none⟩) l.length cap ∧ s4 = .int .i64 (nx : Nat) ∧ s16 = .int .i64 (i : Nat) ∧ i ≤ n ∧ n - i ≤ gg ∧ Hid (Rm wr w.heap.size (.slice (some ⟨g, 0, none⟩) l.length cap) l ∧ l ++ prt nx (P.drop i) = putL P ∧ nx = nxt P i ∧ Kept w wr))
  case atStart =>
    obtain ⟨g0, cap0, rfl⟩ := HR2.out.1.shape
    exact ⟨0, 0, numL n, g0, cap0, rfl, rfl, rfl, Nat.zero_le _, by omega, ⟨HR2.out.1, by unfold putL; rw [HL.out]; rfl, rfl, HR2.out.2⟩⟩
  case round =>
    obtain ⟨i, nx, l, g, cap, rfl, rfl, rfl, hi, hg, HI⟩ := hrel
    clear HR2
    by_cases hlt : i < n
    · obtain ⟨x, hx⟩ : ∃ x, P[i]? = some x := ⟨_, List.getElem?_eq_getElem (by rw [HL.out]; omega)⟩
      obtain ⟨b, o, rfl, c0, c1⟩ := (H.out.kept HI.out.2.2.2).at hx
      have hok := H.out.ok.may x (List.mem_of_getElem? hx)
      have hnx : nx ≤ x.1 := by rw [HI.out.2.2.1]; exact nxt_le H.out.ok hx
      have HE : Hid (l ++ (numL (x.1 - nx) ++ (fixL x.2 8 ++ prt (x.1 + 1) (P.drop (i + 1)))) = putL P ∧ x.1 + 1 = nxt P (i + 1)) := by
        have e := HI.out.2.1
        rw [HI.out.2.2.1, prt_drop hx, ← HI.out.2.2.1] at e
        have e2 : nxt P (i + 1) = x.1 + 1 := by simp only [nxt, hx]
        rw [e2] at e
        exact ⟨e, e2.symm⟩
      have hll : l.length ≤ 4000 := by
        have e := congrArg List.length HE.out.1
        have e1 := numL_ten n (by omega)
        have e2 := HPl.out
        unfold putL at e
        rw [HL.out] at e
        simp only [List.length_append] at e
        omega
      obtain ⟨x1, x2⟩ := x
      simp only at c0 c1 hok hnx HE
      obtain ⟨hx1, hx20, hx2⟩ := hok
      obtain ⟨dd, hdd⟩ : ∃ dd, dd = x1 - nx := ⟨_, rfl⟩
      have hd14 : dd < 16384 := by omega
      have ed : (x1 : Int) - (nx : Int) = (dd : Int) := by omega
      rw [← hdd] at HE
      have fN := fun W => N.num_walk dd (by omega) W
      have fF := fun W => N.fixed_walk x2 hx2 8 W
      rw [kOf8] at fF
      have hl10 := numL_ten dd (by omega)
      have HR : Hid (Rm wr w.heap.size (.slice (some ⟨g, 0, none⟩) l.length cap) l ∧ Kept w wr) := ⟨HI.out.1, HI.out.2.2.2⟩
      clear hx HI hdd hnx
      have ka : Kept wr (wr.alloc (.cells #[.int .i64 (x1 : Nat), .int .u64 (x2 : Nat)] 42)) := (Kept.refl wr).alloc _
      have hbp := alloc_at wr (.cells #[.int .i64 (x1 : Nat), .int .u64 (x2 : Nat)] 42)
      have HBp : Hid ((wr.alloc (.cells #[.int .i64 (x1 : Nat), .int .u64 (x2 : Nat)] 42)).heap[wr.heap.size]? = some (.cells #[.int .i64 (x1 : Nat), .int .u64 (x2 : Nat)] 42)) := hbp
      clear hbp
      go_wp2_with (first
        | (go_at_call 12; (with_reducible refine (fN _).mono ?_); clear fN; rintro e w1 ⟨rfl, k1'⟩; have k1 : Kept (wr.alloc (.cells #[.int .i64 (x1 : Nat), .int .u64 (x2 : Nat)] 42)) w1 := ⟨k1'.out⟩; have R1 := HR.out.1.kept (ka.trans k1); obtain ⟨v1, w2, hr1, R2, g2, hv1⟩ := rm_append R1 (HR.out.2.trans (ka.trans k1)).size (N.numL_small dd) (by omega) 38; have kw2 : Kept w w2 := rm_grown (HR.out.2.trans (ka.trans k1)) R1 g2; have hb2 : w2.heap[wr.heap.size]? = some (.cells #[.int .i64 (x1 : Nat), .int .u64 (x2 : Nat)] 42) := ((g2.block _ (Array.getElem?_eq_some_iff.1 (k1.block HBp.out)).1 (fun e => by have := HR.out.1.lt _ e.symm; omega)).trans (k1.block HBp.out)); obtain ⟨c20, c21⟩ := cells2 hb2; have H2 : Hid (Rm w2 w.heap.size v1 (l ++ numL dd) ∧ Kept w w2 ∧ w2.heap[wr.heap.size]? = some (.cells #[.int .i64 (x1 : Nat), .int .u64 (x2 : Nat)] 42) ∧ v1.ownBlock ≠ some wr.heap.size) := ⟨R2, kw2, hb2, (fun e => by rcases hv1 _ e with e2 | e2; have := HR.out.1.lt _ e2; omega; have := (ka.trans k1).size; have := size_alloc wr (.cells #[.int .i64 (x1 : Nat), .int .u64 (x2 : Nat)] 42); have := k1.size; omega)⟩; clear R1 R2 g2 hv1 kw2 hb2 k1')
        | (at_builtin; refine wpList_app rfl _ _ 38 9 rfl _ _ _ rfl rfl hr1 ?_; clear hr1)
        | (go_at_call 13; (with_reducible refine (fF _).mono ?_); clear fF; rintro e w3 ⟨rfl, k3'⟩; have k3 : Kept w2 w3 := ⟨k3'.out⟩; have R3 := H2.out.1.kept k3; obtain ⟨v3, w4, hr3, R4, g4, hv3⟩ := rm_append R3 (H2.out.2.1.trans k3).size (N.fixL_small x2 8) (by rw [List.length_append, N.fixL_length]; omega) 38; have hb4 : w4.heap[wr.heap.size]? = some (.cells #[.int .i64 (x1 : Nat), .int .u64 (x2 : Nat)] 42) := ((g4.block _ (Array.getElem?_eq_some_iff.1 (k3.block H2.out.2.2.1)).1 (fun e => H2.out.2.2.2 e.symm)).trans (k3.block H2.out.2.2.1)); obtain ⟨c40, c41⟩ := cells2 hb4; have H4 : Hid (Rm w4 w.heap.size v3 (l ++ numL dd ++ fixL x2 8) ∧ Kept w w4) := ⟨R4, rm_grown (H2.out.2.1.trans k3) R3 g4⟩; clear R3 R4 g4 hv3 hb4 k3')
        | (at_builtin; refine wpList_app rfl _ _ 38 9 rfl _ _ _ rfl rfl hr3 ?_; clear hr3))
      obtain ⟨g3, cap3, hv3⟩ := H4.out.1.shape
      subst hv3
      go_roundg (n - (i + 1))
      case measure => omega
      case rel => exact ⟨i + 1, x1 + 1, l ++ numL dd ++ fixL x2 8, g3, cap3, rfl, by go_num, by go_num, by omega, Nat.le_refl _, ⟨H4.out.1, by rw [List.append_assoc, List.append_assoc]; exact HE.out.1, HE.out.2, H4.out.2⟩⟩
    · obtain rfl : i = n := by omega
      have he : l = putL P := by
        have := HI.out.2.1
        rwa [List.drop_of_length_le (by rw [HL.out]; exact Nat.le_refl _), show prt nx [] = [] by cases nx <;> rfl, List.append_nil] at this
      have tx := rm_text HI.out.1
      have HEq : Hid (l = putL P) := he
      clear he
      have hk := HI.out.2.2.2
      clear HI
      go_wp2
      go_ret
      exact ⟨by rw [← HEq.out]; rfl, hk⟩
end Go.Proofs.Ytanccfbbaeocaaa.Bt
