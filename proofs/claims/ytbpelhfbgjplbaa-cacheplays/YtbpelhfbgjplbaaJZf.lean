/- The walk of the law on acts played over a cache. No condition but those that each row names. -/
import Derived.Test.YtbpelhfbgjplbaaJZe
import Derived.Deep.RegionHeld3
import Derived.Deep.DrawnRows
import Derived.Deep.CutRange
namespace Go.Proofs.Ytbpelhfbgjplbaa.Ca
open Go.ChangeShapes Go.WideShapes Go.ChangeAt Go.RowKit
open N (Kept)
open Q (kept_cell Kv Vn Km seq_iff got)
variable {E : Nat → Prop} {X : List En}

set_option maxRecDepth 100000 in
set_option maxHeartbeats 8000000 in
theorem plays_law {w : World} {pa : Option Addr} {na ca : Nat} (A : Acts w pa na) (most : Int) :
    Calls Try.prog 3 #[.slice pa na ca, .int .i64 most] w fun e w' => e = .returned (.bool true) ∧ Kept w w' := by
  obtain ⟨v, hv, hbv0⟩ := low 4 15 (by decide) (by decide) most
  have hbv : bits .and .i64 most 15 = (v : Int) := hbv0
  obtain ⟨m, hm⟩ : ∃ m : Nat, m = max v 1 := ⟨_, rfl⟩
  have hm15 : m ≤ 15 := by omega
  have em : max (v : Int) 1 = (m : Int) := by omega
  have kA : Kept w (w.alloc (.cells #[.slice none 0 0, .slice none 0 0] 26)) := (Kept.refl w).alloc _
  have hn := new_us (Q.kv_new w) kA.size (v : Int) (m := m) em (by omega) (by omega)
  have HA : Hid (∀ W, Kept w W → ∀ j, j < na → W.cell? ⟨A.b, A.o + j * 3, none⟩ = some (.int .i64 (A.what j)) ∧ W.cell? ⟨A.b, A.o + j * 3 + 1, none⟩ = some (.string (A.k j)) ∧ W.cell? ⟨A.b, A.o + j * 3 + 2, none⟩ = some (.string (A.v j))) := fun W k j hj => ⟨kept_cell k (A.c0 j hj), kept_cell k (A.c1 j hj), kept_cell k (A.c2 j hj)⟩
  have AT : Hid (0 < na → pa = some ⟨A.b, A.o, none⟩) := A.at_
  have AM : Hid (na ≤ 9223372036854775807) := A.max
  generalize A.b = b at *
  generalize A.o = o at *
  generalize A.what = aw at *
  generalize A.k = ak at *
  generalize A.v = av at *
  clear A hbv0 hv hm
  go_enter Try.func3, Try.ntmps3
  go_wp2_with (first
    | (go_at_call 6; (with_reducible refine hn.mono ?_); rintro r w1 ⟨P, q1, rfl, u1, _, k1⟩; have K2 : Hid (Kept w w1) := kA.trans k1; have U2 : Hid (Us NE w1 w.heap.size P m w.heap.size 0 q1 [] (fun _ => none)) := u1; have ha := awake_walk (w1.alloc (.cells #[] 61)); clear hn k1 u1)
    | (go_at_call 7; (with_reducible refine ha.mono ?_); rintro r w3 ⟨rfl, k3⟩; have G3 : Hid (Px w w3 P m w.heap.size 0 (fun k => got k []) (some ⟨w1.heap.size, 0, none⟩) 0 0 []) := Px.new U2.out K2.out (((Kept.refl w1).alloc _).trans k3) ((pw_made K2.out.size).kept k3); clear ha k3 K2 U2))
  go_loopg [7, 8] 80 (fun gg lv iv wx => ∃ (i nn cc : Nat) (p : Option Addr) (l : List Pr), lv = .slice p nn cc ∧ iv = .int .i64 (i : Nat) ∧ Hid (gg = 80 - i) ∧ i ≤ na ∧ i ≤ 80 ∧ Hid (Px w wx P m w.heap.size i (fun k => got k l) p nn cc l))
  case atStart => exact ⟨0, 0, 0, _, [], rfl, rfl, rfl, Nat.zero_le _, by decide, G3⟩
  case round =>
    obtain ⟨i, nn, cc, p, l, rfl, rfl, hg, hin, hi1, HG⟩ := hrel
    clear G3
    by_cases h1 : (i : Int) < (na : Int)
    · by_cases h2 : (i : Int) < 80
      · obtain rfl := AT.out (by omega)
        obtain ⟨c0, c1, c2⟩ := HA.out wr HG.out.low i (by omega)
        generalize aw i = z0 at c0
        generalize ak i = z1 at c1
        generalize av i = z2 at c2
        obtain ⟨ma, hma, hma1, hma2⟩ : ∃ mn : Nat, min (z1.size : Int) 3 = (mn : Int) ∧ (mn : Int) ≤ (z1.size : Int) ∧ mn ≤ 3 := ⟨min z1.size 3, by omega, by omega, by omega⟩
        have hma0 : (0 : Int) ≤ (ma : Int) := by omega
        have HC1 : Hid (z1.extract 0 ma = cut 3 z1) := by unfold cut; show _ = _; congr 1; omega
        obtain ⟨mb, hmb, hmb1, hmb2⟩ : ∃ mn : Nat, min (z2.size : Int) 9 = (mn : Int) ∧ (mn : Int) ≤ (z2.size : Int) ∧ mn ≤ 9 := ⟨min z2.size 9, by omega, by omega, by omega⟩
        have hmb0 : (0 : Int) ≤ (mb : Int) := by omega
        have HC2 : Hid (z2.extract 0 mb = cut 9 z2) := by unfold cut; show _ = _; congr 1; omega
        go_upto_region 9 with fail
        have KQ : Hid (Kept wr (wr.alloc (.cells #[.int .i64 z0, .string z1, .string z2] 32))) := (Kept.refl wr).alloc _
        have CQ := act_cells wr z0 z1 z2
        generalize hwq : wr.alloc (.cells #[.int .i64 z0, .string z1, .string z2] 32) = wq at *
        have HSA : Hid (∀ W, Kept wq W → W.cell? ⟨wr.heap.size, 0, none⟩ = some (.int .i64 z0) ∧ W.cell? ⟨wr.heap.size, 1, none⟩ = some (.string z1) ∧ W.cell? ⟨wr.heap.size, 2, none⟩ = some (.string z2)) := fun W hW => ⟨kept_cell hW CQ.1, kept_cell hW CQ.2.1, kept_cell hW CQ.2.2⟩
        clear hwq CQ c0 c1 c2
        go_cut [10, 11] from 43 to 56 (fun kv vv wx => kv = .string (cut 3 z1) ∧ vv = .string (cut 9 z2) ∧ Kept wq wx)
        case first =>
          have KD : Kept wq wq.drew := (Kept.refl wq).drew
          clear HG
          go_region_held3 (fun W => W.cell? ⟨wr.heap.size, 0, none⟩ = some (.int .i64 z0) ∧ W.cell? ⟨wr.heap.size, 1, none⟩ = some (.string z1) ∧ W.cell? ⟨wr.heap.size, 2, none⟩ = some (.string z2)) (exact HSA.out _ (by assumption)) (fail)
          all_goals (go_wp2_with fail)
          all_goals go_meet
          all_goals exact ⟨by rw [HC1.out], by rw [HC2.out], KD⟩
        case rest =>
          obtain ⟨rfl, rfl, k1⟩ := hcut
          obtain ⟨c0, _, _⟩ := HSA.out _ k1
          have HKS : Hid ((cut 3 z1).size ≤ 64) := by have := cut_size 3 z1; show _ ≤ 64; omega
          have HVS : Hid ((cut 9 z2).size ≤ 65536) := by have := cut_size 9 z2; show _ ≤ 65536; omega
          generalize cut 3 z1 = k at HKS ⊢
          generalize cut 9 z2 = t at HVS ⊢
          have HX : Hid (Px w wc P m w.heap.size i (fun k => got k l) p nn cc l) := HG.out.kept (KQ.out.trans k1)
          have HNN : Hid (nn ≤ i) := HG.out.few
          have hi80 : i < 80 := by omega
          have HM : Hid (m ≤ 15) := hm15
          clear HC1 HC2 hma hma0 hma1 hma2 hmb hmb0 hmb1 hmb2 HSA KQ HG k1 hm15
          have g1 := HX.out.ask (by omega) k
          by_cases e2 : z0.tmod 5 = 2
          · have g2 := HX.out.get hi80 k HKS.out
            generalize (got k l).isSome = bw at g1 g2
            generalize (got k l).getD ⟨#[]⟩ = sv at g1 g2
            clear HX
            go_wp2_with (first
              | (go_at_call 8; (with_reducible refine g1.mono ?_); rintro e w2 ⟨rfl, hw2⟩; rw [hw2]; clear hw2 g1)
              | (go_at_call 9; (with_reducible refine g2.mono ?_); rintro e w3 ⟨rfl, px⟩; have PX : Hid (Px w w3 P m w.heap.size (i + 1) (fun k => got k l) p nn cc l) := px; obtain ⟨hn, hle, g3⟩ := px.held; have hle' : ¬ (m : Int) < (hn : Int) := (by omega); clear px g2 hle)
              | (go_at_call 16; (with_reducible refine g3.mono ?_); rintro e w4 ⟨rfl, hw4⟩; rw [hw4]; clear hw4 g3))
            go_roundg (80 - (i + 1))
            case measure => rw [hg.out]; omega
            case rel => exact ⟨i + 1, nn, cc, p, l, rfl, by go_num, rfl, by omega, by omega, PX⟩
          · by_cases e3 : z0.tmod 5 = 3
            · have g2 := HX.out.delete hi80 k HKS.out
              generalize (got k l).isSome = bw at g1 g2
              generalize (got k l).getD ⟨#[]⟩ = sv at g1
              clear HX
              go_wp2_with (first
                | (go_at_call 8; (with_reducible refine g1.mono ?_); rintro e w2 ⟨rfl, hw2⟩; rw [hw2]; clear hw2 g1)
                | (go_at_call 10; (with_reducible refine g2.mono ?_); rintro e w3 ⟨rfl, px⟩; have g4 := px.rdel hi80 HNN.out; clear px g2)
                | (go_at_call 11; (with_reducible refine g4.mono ?_); rintro e w4 ⟨p', n', c', l', rfl, px⟩; have PX : Hid (Px w w4 P m w.heap.size (i + 1) (fun k => got k l') p' n' c' l') := px; obtain ⟨hn, hle, g3⟩ := px.held; have hle' : ¬ (m : Int) < (hn : Int) := (by omega); clear px g4 hle)
                | (go_at_call 16; (with_reducible refine g3.mono ?_); rintro e w5 ⟨rfl, hw5⟩; rw [hw5]; clear hw5 g3))
              go_roundg (80 - (i + 1))
              case measure => rw [hg.out]; omega
              case rel => exact ⟨i + 1, n', c', p', l', rfl, by go_num, rfl, by omega, by omega, PX⟩
            · by_cases e4 : z0.tmod 5 = 4
              · have g2 := HX.out.sync (by omega) HM.out
                generalize (got k l).isSome = bw at g1
                generalize (got k l).getD ⟨#[]⟩ = sv at g1
                clear HX
                go_wp2_with (first
                  | (go_at_call 8; (with_reducible refine g1.mono ?_); rintro e w2 ⟨rfl, hw2⟩; rw [hw2]; clear hw2 g1)
                  | (go_at_call 12; (with_reducible refine g2.mono ?_); rintro e w3 ⟨rfl, px, n', kv⟩; have PX : Hid (Px w w3 P m w.heap.size (i + 1) (fun k => got k l) p nn cc l) := px; have g4 := px.below (by omega) kv; obtain ⟨hn, hle, g3⟩ := px.held; have hle' : ¬ (m : Int) < (hn : Int) := (by omega); clear px g2 hle kv)
                  | (go_at_call 13; (with_reducible refine g4.mono ?_); rintro e w4 ⟨rfl, hw4⟩; rw [hw4]; clear hw4 g4)
                  | (go_at_call 16; (with_reducible refine g3.mono ?_); rintro e w5 ⟨rfl, hw5⟩; rw [hw5]; clear hw5 g3))
                go_roundg (80 - (i + 1))
                case measure => rw [hg.out]; omega
                case rel => exact ⟨i + 1, nn, cc, p, l, rfl, by go_num, rfl, by omega, by omega, PX⟩
              · have g2 := HX.out.put hi80 k t HKS.out HVS.out
                generalize (got k l).isSome = bw at g1
                generalize (got k l).getD ⟨#[]⟩ = sv at g1
                clear HX
                go_wp2_with (first
                  | (go_at_call 8; (with_reducible refine g1.mono ?_); rintro e w2 ⟨rfl, hw2⟩; rw [hw2]; clear hw2 g1)
                  | (go_at_call 14; (with_reducible refine g2.mono ?_); rintro e w3 ⟨rfl, px⟩; have g4 := px.rput hi80 HNN.out; clear px g2)
                  | (go_at_call 15; (with_reducible refine g4.mono ?_); rintro e w4 ⟨p', n', c', l', rfl, px⟩; have PX : Hid (Px w w4 P m w.heap.size (i + 1) (fun k => got k l') p' n' c' l') := px; obtain ⟨hn, hle, g3⟩ := px.held; have hle' : ¬ (m : Int) < (hn : Int) := (by omega); clear px g4 hle)
                  | (go_at_call 16; (with_reducible refine g3.mono ?_); rintro e w5 ⟨rfl, hw5⟩; rw [hw5]; clear hw5 g3))
                go_roundg (80 - (i + 1))
                case measure => rw [hg.out]; omega
                case rel => exact ⟨i + 1, n', c', p', l', rfl, by go_num, rfl, by omega, by omega, PX⟩
      · have g5 := HG.out.sync (by omega) hm15
        clear HG
        go_wp2_with (first
          | (go_at_call 12; (with_reducible refine g5.mono ?_); rintro e w3 ⟨rfl, px, n', kv⟩; have PX : Hid (Kept w w3) := px.low; have g4 := px.below (by omega) kv; clear px g5 kv)
          | (go_at_call 13; (with_reducible refine g4.mono ?_); rintro e w4 ⟨rfl, hw4⟩; rw [hw4]; clear hw4 g4))
        go_ret
        exact ⟨rfl, PX.out⟩
    · have g5 := HG.out.sync (by omega) hm15
      clear HG
      go_wp2_with (first
        | (go_at_call 12; (with_reducible refine g5.mono ?_); rintro e w3 ⟨rfl, px, n', kv⟩; have PX : Hid (Kept w w3) := px.low; have g4 := px.below (by omega) kv; clear px g5 kv)
        | (go_at_call 13; (with_reducible refine g4.mono ?_); rintro e w4 ⟨rfl, hw4⟩; rw [hw4]; clear hw4 g4))
      go_ret
      exact ⟨rfl, PX.out⟩
end Go.Proofs.Ytbpelhfbgjplbaa.Ca
