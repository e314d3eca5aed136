/- The walk of Get over a set's own bytes. Conditions: those that each row names. -/
import Derived.Test.YtanccfbbaeocaaaLZ
namespace Go.Proofs.Ytanccfbbaeocaaa.Bt
open Go.RowKit Go.Shelf
open N (bs bs_size Small numL fixL cellsOf numL_ten fixL_length Rd Ob)

theorem bs_nil : bs [] = ⟨#[]⟩ := rfl
set_option maxRecDepth 100000 in
set_option maxHeartbeats 4000000 in
theorem get_walk {P : List Pt} (hP : Okp P) (hn : P.length ≤ 200) (w : World) :
    Calls Try.prog 6 #[.string (bs (putL P))] w fun e w' => ∃ q n c, e = .returned (.tuple #[.agg #[.slice q n c], .int .i64 0]) ∧ St w' q n c P ∧ Kept w w' := by
  obtain ⟨i0, hi0, hz0, hz1, hz2⟩ := info_parts info42
  have k0 : Kept w (w.alloc (.cells #[.slice none 0 0] 25)) := (Kept.refl w).alloc _
  have hsz := size_alloc w (.cells #[.slice none 0 0] 25)
  have f1 := N.new_walk (bs (putL P)) (w.alloc (.cells #[.slice none 0 0] 25))
  rw [hsz] at f1
  obtain ⟨n, hnq⟩ : ∃ n, n = P.length := ⟨_, rfl⟩
  have hn2 : n ≤ 200 := by omega
  have HL : Hid (P.length = n) := hnq.symm
  have HOk : Hid (Okp P) := hP
  have hpl := prt_len 0 P hP
  have HF2 : Hid (∀ W br, Rd W br (bs (putL P)) 0 → Calls Try.prog 15 #[.pointer (some ⟨br, 0, none⟩), .int .u64 16384] W fun e w' => e = .returned (.int .u64 (n : Nat)) ∧ Rd w' br (bs (prt 0 P)) 0 ∧ Ob br W w') := fun W br r => by
    have := N.rnum2 n (by omega) (prt 0 P) (by omega) 16384 (by omega) (b := br) (w := W) (by unfold putL at r; rw [← hnq] at r; exact r)
    exact this
  have HW : Hid (∀ w1, Kept (w.alloc (.cells #[.slice none 0 0] 25)) w1 → Rd w1 (w.heap.size + 1) (bs (putL P)) 0 → Rd (w1.alloc (.cells #[.slice none 0 0] 25)) (w.heap.size + 1) (bs (putL P)) 0 ∧ ∀ w2, Rd w2 (w.heap.size + 1) (bs (prt 0 P)) 0 → Ob (w.heap.size + 1) (w1.alloc (.cells #[.slice none 0 0] 25)) w2 → Gt w w2 (w.heap.size + 1) w1.heap.size none 0 0 (P.take 0) (bs (prt 0 (P.drop 0)))) := fun w1 k1 r1 => by
    have ka : Kept w1 (w1.alloc (.cells #[.slice none 0 0] 25)) := (Kept.refl w1).alloc _
    have hs1 := size_alloc w1 (.cells #[.slice none 0 0] 25)
    have hrl : w.heap.size + 1 < w1.heap.size := r1.lt
    refine ⟨⟨ka.block r1.out⟩, fun w2 r2 o2 => ?_⟩
    have g0 : Gt w (w1.alloc (.cells #[.slice none 0 0] 25)) (w.heap.size + 1) w1.heap.size none 0 0 [] (bs (putL P)) := ⟨(k1.trans ka).block (alloc_at w _), alloc_at w1 _, own_nil _ _ _ _, ⟨ka.block r1.out⟩, (k0.trans (k1.trans ka)).out, by omega, by omega, hrl⟩
    exact g0.ob o2 r2
  clear hP hn hpl k0 hnq
  go_enter Try.func6, Try.ntmps6
  go_wp2_with (first
    | (go_at_call 14; (with_reducible refine f1.mono ?_); clear f1; rintro e w1 ⟨rfl, r1, k1'⟩; obtain ⟨r1', hG⟩ := HW.out w1 ⟨k1'.out⟩ r1; have f2 := HF2.out _ _ r1'; have HG : Hid (∀ w2, Rd w2 (w.heap.size + 1) (bs (prt 0 P)) 0 → Ob (w.heap.size + 1) (w1.alloc (.cells #[.slice none 0 0] 25)) w2 → Gt w w2 (w.heap.size + 1) w1.heap.size none 0 0 (P.take 0) (bs (prt 0 (P.drop 0)))) := hG; clear r1 k1' r1' hG)
    | (go_at_call 15; (with_reducible refine f2.mono ?_); clear f2; rintro e w2 ⟨rfl, r2, o2⟩; have H0 : Hid (Gt w w2 (w.heap.size + 1) w1.heap.size none 0 0 (P.take 0) (bs (prt 0 (P.drop 0)))) := HG.out w2 r2 o2; clear r2 o2))
  clear HW HF2 HG hsz
  go_loopg [6, 13] n (fun gg s6 s13 wr => ∃ (i nx : Nat) (q : Option Addr) (cc : Nat), s6 = .int .i64 (nx : Nat) ∧ s13 = .int .u64 (i : Nat) ∧ i ≤ n ∧ n - i ≤ gg ∧ Hid (Gt w wr (w.heap.size + 1) w1.heap.size q i cc (P.take i) (bs (prt nx (P.drop i))) ∧ nx = nxt P i))
  case atStart => exact ⟨0, 0, none, 0, rfl, rfl, Nat.zero_le _, by omega, ⟨H0.out, rfl⟩⟩
  case round =>
    obtain ⟨i, nx, q, cc, rfl, rfl, hi, hg, HI⟩ := hrel
    clear H0
    by_cases hlt : i < n
    · obtain ⟨x, hx⟩ : ∃ x, P[i]? = some x := ⟨_, List.getElem?_eq_getElem (by rw [HL.out]; omega)⟩
      have hok := HOk.out.may x (List.mem_of_getElem? hx)
      have hnx : nx ≤ x.1 := by rw [HI.out.2]; exact nxt_le HOk.out hx
      have HE : Hid (prt nx (P.drop i) = numL (x.1 - nx) ++ (fixL x.2 8 ++ prt (x.1 + 1) (P.drop (i + 1))) ∧ x.1 + 1 = nxt P (i + 1) ∧ P.take (i + 1) = P.take i ++ [x]) := by
        have e := prt_drop hx
        have e2 : nxt P (i + 1) = x.1 + 1 := by simp only [nxt, hx]
        rw [← HI.out.2, e2] at e
        exact ⟨e, e2.symm, by rw [List.take_add_one, hx]; rfl⟩
      have hpl2 := prt_len (x.1 + 1) (P.drop (i + 1)) (HOk.out.drop _)
      rw [List.length_drop, HL.out] at hpl2
      obtain ⟨x1, x2⟩ := x
      simp only at hok hnx HE hpl2
      obtain ⟨hx1, hx20, hx2⟩ := hok
      have fR := read_walk (x1 - nx) x2 nx (prt (x1 + 1) (P.drop (i + 1))) (by omega) hx20 hx2 (by omega) (b := w.heap.size + 1) (w := wr) (by have := HI.out.1.rd; rw [HE.out.1] at this; exact this)
      rw [show nx + (x1 - nx) = x1 by omega] at fR
      have HM : Hid (∀ w3, Rd w3 (w.heap.size + 1) (bs (prt (x1 + 1) (P.drop (i + 1)))) 0 → Ob (w.heap.size + 1) wr w3 → Gt w (w3.alloc (.cells #[.int .i64 (x1 : Nat), .int .u64 (x2 : Nat)] 42)) (w.heap.size + 1) w1.heap.size q i cc (P.take i) (bs (prt (x1 + 1) (P.drop (i + 1)))) ∧ ∀ k, (Value.slice q i cc).ownBlock = some k → k < w3.heap.size) := fun w3 r3 o3 => ⟨(HI.out.1.ob o3 r3).kept ((Kept.refl w3).alloc _), fun k hk => by obtain ⟨_, cs', fr', h2⟩ := own_blk (HI.out.1.ob o3 r3).own k hk; exact (Array.getElem?_eq_some_iff.1 h2).1⟩
      clear hx HI hnx
      go_wp2_with (first
        | (go_at_call 16; (with_reducible refine fR.mono ?_); clear fR; rintro e w3 ⟨rfl, r3, o3⟩; obtain ⟨G3, hlt3⟩ := HM.out w3 r3 o3; have fE := N.err_walk G3.rd; have y5 : (w3.alloc (.cells #[.int .i64 (x1 : Nat), .int .u64 (x2 : Nat)] 42)).cell? ⟨w1.heap.size, 0, none⟩ = some (.slice q i cc) := (by rw [cell_of_row _ _ 0 _ _ _ G3.c5]; rfl); have HG3 : Hid (Gt w (w3.alloc (.cells #[.int .i64 (x1 : Nat), .int .u64 (x2 : Nat)] 42)) (w.heap.size + 1) w1.heap.size q i cc (P.take i) (bs (prt (x1 + 1) (P.drop (i + 1))))) := G3; have ccl := G3.own.rw.small; have OA := G3.own.kept ((Kept.refl (w3.alloc (.cells #[.int .i64 (x1 : Nat), .int .u64 (x2 : Nat)] 42))).alloc (.cells #[.int .i64 (x1 : Nat), .int .u64 (x2 : Nat)] 42)); have hz4 := part_cells (w3.alloc (.cells #[.int .i64 (x1 : Nat), .int .u64 (x2 : Nat)] 42)) (x1, x2) 42; rw [size_alloc] at hz4; have hBE : w1.heap.size + 1 ≤ ((w3.alloc (.cells #[.int .i64 (x1 : Nat), .int .u64 (x2 : Nat)] 42)).alloc (.cells #[.int .i64 (x1 : Nat), .int .u64 (x2 : Nat)] 42)).heap.size := Nat.le_trans G3.big ((Kept.refl (w3.alloc (.cells #[.int .i64 (x1 : Nat), .int .u64 (x2 : Nat)] 42))).alloc (.cells #[.int .i64 (x1 : Nat), .int .u64 (x2 : Nat)] 42)).size; have HB3 : Hid ((w3.alloc (.cells #[.int .i64 (x1 : Nat), .int .u64 (x2 : Nat)] 42)).heap[w3.heap.size]? = some (.cells #[.int .i64 (x1 : Nat), .int .u64 (x2 : Nat)] 42) ∧ (∀ k, (Value.slice q i cc).ownBlock = some k → w3.heap.size ≠ k) ∧ w3.heap.size ≠ w1.heap.size ∧ w3.heap.size < (w3.alloc (.cells #[.int .i64 (x1 : Nat), .int .u64 (x2 : Nat)] 42)).heap.size) := ⟨alloc_at w3 _, fun k hk => (by have := hlt3 k hk; omega), (by rintro e; have h5 := G3.c5; rw [← e, alloc_at w3] at h5; injection h5 with h5; injection h5 with _ h5; exact absurd h5 (by decide)), (by rw [size_alloc]; omega)⟩; clear G3 r3 o3 HM hlt3)
        | (go_at_call 17; (with_reducible refine fE.mono ?_); clear fE; rintro e w' ⟨rfl, hw'⟩; rw [hw']; clear hw')
        | (at_builtin; refine wpList_append_own _ rfl _ _ 23 rfl (w1.heap.size + 1) 42 i0 _ 2 16 Try.underlying23 hi0 hz0 hz1 hz2 rfl (by decide) (.slice q i cc) i (pc (P.take i)) rfl OA.out ⟨w3.heap.size + 1, 0, none⟩ 1 1 (pc1 (x1, x2)) rfl rfl hz4 (pc1_one (x1, x2)) (by unfold maxLen; omega) (by omega) hBE ?_; intro v' w5 o5 g5 _; obtain ⟨q5, c5, rfl⟩ := shape_of o5; obtain ⟨p5, hst5, G5⟩ := HG3.out.more o5 g5; have z0 : w5.cell? ⟨w1.heap.size, 0, none⟩ = some (.slice q i cc) := (by rw [cell_of_row _ _ 0 _ _ _ p5]; rfl); have z1 : w5.frozen? ⟨w1.heap.size, 0, none⟩ = false := frozen_of_row _ _ 0 _ _ p5; obtain ⟨d0, d1⟩ := cells2 ((heap_setCell_other w5 ⟨w1.heap.size, 0, none⟩ w3.heap.size (.slice q5 (i + 1) c5) HB3.out.2.2.1).trans ((hst5 _ HB3.out.2.2.2 HB3.out.2.1).trans HB3.out.1)); have HG5 : Hid (Gt w (w5.setCell ⟨w1.heap.size, 0, none⟩ (.slice q5 (i + 1) c5)) (w.heap.size + 1) w1.heap.size q5 (i + 1) c5 (P.take i ++ [(x1, x2)]) (bs (prt (x1 + 1) (P.drop (i + 1))))) := G5; clear o5 g5 p5 hst5 G5))
      go_roundg (n - (i + 1))
      case measure => omega
      case rel => exact ⟨i + 1, x1 + 1, q5, c5, by go_num, by go_num, by omega, Nat.le_refl _, ⟨by rw [HE.out.2.2]; exact HG5.out, HE.out.2.1⟩⟩
    · obtain rfl : i = n := by omega
      have hT : P.take i = P := List.take_of_length_le (by rw [HL.out]; exact Nat.le_refl _)
      have hD : prt nx (P.drop i) = [] := by rw [List.drop_of_length_le (by rw [HL.out]; exact Nat.le_refl _)]; cases nx <;> rfl
      rw [hT, hD] at HI
      have fE := N.end_walk HI.out.1.rd
      obtain ⟨z0, z1, F1, F2, F3⟩ := HI.out.1.fin HOk.out
      have y5 : wr.cell? ⟨w1.heap.size, 0, none⟩ = some (.slice q i cc) := by rw [cell_of_row _ _ 0 _ _ _ HI.out.1.c5]; rfl
      have HF : Hid (St (wr.setCell ⟨w.heap.size, 0, none⟩ (.slice q i cc)) q i cc P ∧ Kept w (wr.setCell ⟨w.heap.size, 0, none⟩ (.slice q i cc)) ∧ (wr.setCell ⟨w.heap.size, 0, none⟩ (.slice q i cc)).heap[w.heap.size]? = some (.cells #[.slice q i cc] 25)) := ⟨F1, F2, F3⟩
      clear HI hT hD F1 F2 F3
      go_wp2_with (go_at_call 18; (with_reducible refine fE.mono ?_); clear fE; rintro e w' ⟨rfl, hw'⟩; rw [hw']; clear hw')
      refine bodyPost_ret (v := .tuple #[.agg #[.slice q i cc], .int .i64 0]) ?_ rfl ⟨q, i, cc, rfl, HF.out.1, HF.out.2.1⟩
      exact results_two (p := 2) (u := 3) (ty := 25) rfl _ _ w.heap.size 25 _ (0, 0) _ rfl HF.out.2.2 Try.underlying25 rfl size25
end Go.Proofs.Ytanccfbbaeocaaa.Bt
