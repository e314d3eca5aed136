/- The walk of the law on what goes. No condition but those that each row names. -/
import Derived.Test.YtbpelhfbgjplbaaJX
namespace Go.Proofs.Ytbpelhfbgjplbaa.Ca
open Go.ChangeShapes Go.WideShapes Go.ChangeAt Go.RowKit
open N (Kept)
open Q (kept_cell Kv Vn Km m_get m_put m_del Own sc one_cellA one_str seq_iff)
variable {E : Nat → Prop} {X : List En}

theorem Go_.cost {w wr w5 w6 : World} {P m kb : Nat} {q q' : Cc} {es es1 : List En} {x : En} {n rr rr2 : Nat} {hp : Option Addr} {hn : Nat} {k : ByteArray} {E' : Nat → Prop} (h : Go_ w wr P m kb q es n rr hp hn) (fd : Fd E' w5 w6 w.heap.size P m n q q' es es1 x (fun _ => none) k)
    (hr2 : rr2 = (if (es.map (·.k)).any (fun y => decide (y = k)) then rr else rr + 1)) (hrr : rr ≤ 1000) : Calls Try.prog 17 #[.pointer (some ⟨P, 0, none⟩)] w6 fun r w' => r = .returned (.tuple #[.int .i64 (rr2 : Nat), .int .i64 0]) ∧ Kept w6 w' := by
  obtain ⟨n', f', a, M, iv⟩ := fd.cm
  have hc := cost_walk M.cb
  have e1 : q'.r = (rr2 : Nat) := by
    rw [fd.r, hr2, h.r]
    split
    · rfl
    · rw [IntKind.wrap_i64]; omega
  have e2 : q'.x = 0 := (fd.cl h.cl).2.trans h.z
  rw [e1, e2] at hc
  exact hc
theorem Go_.held {w wx : World} {P m kb : Nat} {q : Cc} {es : List En} {n rr : Nat} {hp : Option Addr} {hn : Nat} (h : Go_ w wx P m kb q es n rr hp hn) : Calls Try.prog 16 #[.pointer (some ⟨P, 0, none⟩)] wx fun r w' => r = .returned (.int .i64 (hn : Nat)) ∧ w' = wx := by
  have := h.us.held
  rwa [h.len] at this
theorem take_more {α : Type} {l : List α} {i : Nat} {x : α} (h : l[i]? = some x) : l.take (i + 1) = l.take i ++ [x] := by rw [List.take_add_one, h]; rfl
theorem flt_eq {ks : List ByteArray} {k x : ByteArray} {i : Nat} (h : ks[i]? = some x) (he : x = k) : (ks.take (i + 1)).filter (fun y => !decide (y = k)) = (ks.take i).filter (fun y => !decide (y = k)) ∧ (ks.take (i + 1)).any (fun y => decide (y = k)) = true := by
  subst he
  rw [take_more h, List.filter_append, List.any_append]
  simp
theorem flt_ne {ks : List ByteArray} {k x : ByteArray} {i : Nat} (h : ks[i]? = some x) (he : ¬ x = k) : (ks.take (i + 1)).filter (fun y => !decide (y = k)) = (ks.take i).filter (fun y => !decide (y = k)) ++ [x] ∧ (ks.take (i + 1)).any (fun y => decide (y = k)) = (ks.take i).any (fun y => decide (y = k)) := by
  rw [take_more h, List.filter_append, List.any_append]
  simp [he]
theorem flt_all {ks : List ByteArray} {k : ByteArray} (h : ks.any (fun y => decide (y = k)) = false) : ks.filter (fun y => !decide (y = k)) = ks := by
  refine List.filter_eq_self.2 fun y hy => ?_
  rw [List.any_eq_false] at h
  have := h y hy
  simpa using this
theorem app_more {w wo : World} {p : Option Addr} {n c : Nat} {l l' : List ByteArray} {k : ByteArray} (R : Rt w wo.heap.size p n c l) (K : Kept wo w) (hn : n ≤ 1000) (hl : l ++ [k] = l') (ty : TypeId) :
    ∃ v' w', (Builtin.append_ #[24, 24] ty #[.slice p n c, .slice (some ⟨w.heap.size, 0, none⟩) 1 1]).run Try.prog (w.alloc (.cells #[.string k] 9)) = .ok v' w' ∧ ∃ p' c', v' = .slice p' (n + 1) c' ∧ Rt w' wo.heap.size p' (n + 1) c' l' ∧ Kept wo w' := by
  have ka : Kept w (w.alloc (.cells #[.string k] 9)) := (Kept.refl w).alloc _
  obtain ⟨v', w', hr, p', c', hv, R', hg⟩ := (R.kept ka).more (Nat.le_trans K.size ka.size) hn k (one_cellA w (.string k) 9) ty
  rw [hl] at R'
  refine ⟨v', w', hr, p', c', hv, R', keptBy (K.trans ka) hg fun b hb => ?_⟩
  rcases R.out with ⟨h1, h2⟩ | ⟨g, off, cur, h1, hB, _⟩
  · subst h1; cases hb
  · subst h1; injection hb with hb; subst hb; exact hB

set_option maxRecDepth 100000 in
set_option maxHeartbeats 8000000 in
theorem goes_law {w : World} {pa : Option Addr} {na ca : Nat} (A : Strs w pa na) (most : Int) :
    Calls Try.prog 4 #[.slice pa na ca, .int .i64 most] w fun e w' => e = .returned (.bool true) ∧ Kept w w' := by
  obtain ⟨v, hv, hbv⟩ := low 3 7 (by decide) (by decide) most
  obtain ⟨m, hm⟩ : ∃ m : Nat, m = v + 1 := ⟨_, rfl⟩
  have hm8 : 1 ≤ m ∧ m ≤ 8 := by omega
  have em : IntKind.i64.wrap (bits .and .i64 most 7 + 1) = (m : Int) := by
    have : bits .and .i64 most 7 = (v : Int) := hbv
    rw [this, IntKind.wrap_i64]; omega
  have kA : Kept w (w.alloc (.cells #[.slice none 0 0, .slice none 0 0] 26)) := (Kept.refl w).alloc _
  have hn := new_us (Q.kv_new w) kA.size (m : Int) (m := m) (by omega) (by omega) (by omega)
  have HA : Hid (∀ W, Kept w W → ∀ j, j < na → W.cell? ⟨A.b, A.o + j, none⟩ = some (.string (A.s j))) := fun W k j hj => kept_cell k (A.c j hj)
  have AT : Hid (0 < na → pa = some ⟨A.b, A.o, none⟩) := A.at_
  have AM : Hid (na ≤ 9223372036854775807) := A.max
  obtain ⟨b, hb⟩ : ∃ b, A.b = b := ⟨_, rfl⟩
  obtain ⟨o, ho⟩ : ∃ o, A.o = o := ⟨_, rfl⟩
  obtain ⟨s, hs⟩ : ∃ s, A.s = s := ⟨_, rfl⟩
  rw [hb, ho, hs] at HA
  rw [hb, ho] at AT
  clear hb ho hs A hbv hv hm
  go_enter Try.func4, Try.ntmps4
  go_wp2_with (first
    | (go_at_call 6; (with_reducible refine hn.mono ?_); rintro r w1 ⟨P, q1, rfl, u1, ⟨z1, z2⟩, k1⟩; have K2 : Hid (Kept w (w1.alloc (.cells #[] 9))) := (kA.trans k1).alloc _; have U2 : Hid (Us NE (w1.alloc (.cells #[] 9)) w.heap.size P m w.heap.size 0 q1 [] (fun _ => none)) := u1.kept ((Kept.refl w1).alloc _); have Z2 : Hid (q1.r = 0 ∧ q1.x = 0) := ⟨z1, z2⟩; have ha := awake_walk (w1.alloc (.cells #[] 9)); clear hn k1 u1 z1 z2)
    | (go_at_call 7; (with_reducible refine ha.mono ?_); rintro r w3 ⟨rfl, k3⟩; have G3 : Hid (Go_ w w3 P m w.heap.size q1 [] 0 0 (some ⟨w1.heap.size, 0, none⟩) 0) := ⟨U2.out.kept k3, Z2.out.2, Z2.out.1, (fun y hy => by cases hy), rfl, ⟨0, 0, fun h => absurd h (by omega), fun j x hx => by simp at hx⟩, K2.out.trans k3⟩; clear ha k3 K2 U2 Z2))
  go_loopg [8, 9, 10] 60 (fun gg hv rv iv wx => ∃ (i rr nn n : Nat) (hp : Option Addr) (hc : Nat) (q : Cc) (es : List En), hv = .slice hp nn hc ∧ rv = .int .i64 (rr : Nat) ∧ iv = .int .i64 (i : Nat) ∧ Hid (gg = 60 - i) ∧ i ≤ na ∧ i ≤ 60 ∧ rr ≤ i ∧ n ≤ i ∧ Hid (Go_ w wx P m w.heap.size q es n rr hp nn))
  case atStart => exact ⟨0, 0, 0, 0, _, _, q1, [], rfl, rfl, rfl, rfl, Nat.zero_le _, by decide, Nat.le_refl _, Nat.le_refl _, G3⟩
  case round =>
    obtain ⟨i, rr, nn, n, hp, hc, q, es, rfl, rfl, rfl, hg, hin, hi1, hri, hni, HG⟩ := hrel
    clear G3
    by_cases h1 : (i : Int) < (na : Int)
    · by_cases h2 : (i : Int) < 60
      · obtain rfl := AT.out (by omega)
        have c0 := HA.out wr HG.out.low i (by omega)
        obtain ⟨mn, hmn, hm1, hm2⟩ : ∃ mn : Nat, min ((s i).size : Int) 2 = (mn : Int) ∧ (mn : Int) ≤ ((s i).size : Int) ∧ mn ≤ 2 := ⟨min (s i).size 2, by omega, by omega, by omega⟩
        have hm0 : (0 : Int) ≤ (mn : Int) := by omega
        have HC : Hid ((s i).extract 0 mn = cut 2 (s i)) := by unfold cut; show _ = _; congr 1; omega
        go_upto_region 10 with fail
        go_cut [11] from 42 to 52 (fun kv wx => kv = .string (cut 2 (s i)) ∧ Kept wr wx)
        case first =>
          have HSA : Hid (∀ W, Kept wr W → W.cell? ⟨b, o + i, none⟩ = some (.string (s i))) := fun W hW => kept_cell hW c0
          have KD : Kept wr wr.drew := (Kept.refl wr).drew
          clear c0 HG
          go_region_held3 (fun W => W.cell? ⟨b, o + i, none⟩ = some (.string (s i))) (exact HSA.out _ (by assumption)) (fail)
          all_goals (go_wp2_with fail)
          all_goals go_meet
          all_goals exact ⟨by rw [HC.out], KD⟩
        case rest =>
          obtain ⟨rfl, k1⟩ := hcut
          have HKS : Hid ((cut 2 (s i)).size ≤ 64) := by have := cut_size 2 (s i); show _ ≤ 64; omega
          obtain ⟨k, hk⟩ : ∃ k, k = cut 2 (s i) := ⟨_, rfl⟩
          rw [← hk] at HKS ⊢
          obtain ⟨wo, hwo⟩ : ∃ wo, wo = wr := ⟨_, rfl⟩
          subst hwo
          obtain ⟨ks, hks⟩ : ∃ ks, ks = es.map (·.k) := ⟨_, rfl⟩
          obtain ⟨gh, oh, hat, hcl⟩ := HG.out.row
          rw [← hks] at hcl
          have HAT : Hid (0 < nn → hp = some ⟨gh, oh, none⟩) := hat
          have HCL : Hid (∀ j x, ks[j]? = some x → wo.cell? ⟨gh, oh + j, none⟩ = some (.string x)) := hcl
          have HKL : Hid (ks.length = nn) := by rw [hks, List.length_map]; exact HG.out.len
          have hnm : nn ≤ m := by rw [← HG.out.len]; exact HG.out.us.len
          have HRB : Hid (rr ≤ 1000) := (by omega : rr ≤ 1000)
          have HN2 : Hid (n + 1 ≤ 90000) := (by omega : n + 1 ≤ 90000)
          have HU : Hid (∀ w5 pp n5 c5 l, Kept wo w5 → Rt w5 wo.heap.size pp n5 c5 l → Us (fun b => ∃ a, pp = some a ∧ b = a.block) w5 w.heap.size P m w.heap.size n q es (fun _ => none)) := fun w5 pp n5 c5 l k5 R => by
            refine HG.out.us.guard k5 _ ?_
            rintro x ⟨a, ha, rfl⟩
            rcases R.out with ⟨h1, h2⟩ | ⟨g, off, cur, h1, hB, hg, _⟩
            · rw [ha] at h1; cases h1
            · rw [ha] at h1; injection h1 with h1; subst h1; exact ⟨hB, (Array.getElem?_eq_some_iff.1 hg).1⟩
          have KA : Hid (Kept wo (wc.alloc (.cells #[] 9))) := k1.alloc _
          have R0 : Hid (Rt (wc.alloc (.cells #[] 9)) wo.heap.size (some ⟨wc.heap.size, 0, none⟩) 0 0 ((ks.take 0).filter fun y => !decide (y = k))) := by
            refine ⟨by simp, Nat.le_refl _, Nat.zero_le _, .inr ⟨wc.heap.size, 0, #[], rfl, k1.size, heap_alloc_new wc _, by simp, fun j x hx => by simp at hx⟩⟩
          clear hat hcl c0 hmn hm1 hm2 hm0 HC k1 hk
          go_wp2
          go_loopg [12, 13, 14] nn (fun gg2 sv bv xv wx => ∃ (j mm qc : Nat) (qq : Option Addr) (bw : Bool), sv = .slice qq mm qc ∧ bv = .bool bw ∧ xv = .int .i64 (j : Nat) ∧ Hid (gg2 = nn - j) ∧ j ≤ nn ∧ mm ≤ j ∧ Hid (Rt wx wo.heap.size qq mm qc ((ks.take j).filter fun y => !decide (y = k))) ∧ Hid (bw = (ks.take j).any fun y => decide (y = k)) ∧ Hid (Kept wo wx))
          case atStart => exact ⟨0, 0, 0, _, false, rfl, rfl, rfl, rfl, Nat.zero_le _, Nat.le_refl _, R0, rfl, KA⟩
          case round =>
            obtain ⟨j, mm, qc, qq, bw, rfl, rfl, rfl, hg2, hjn, hmj, R, HB, K2⟩ := hrel
            clear R0 KA
            by_cases hj : (j : Int) < (nn : Int)
            · obtain rfl := HAT.out (by omega)
              obtain ⟨x, hx⟩ : ∃ x, ks[j]? = some x := ⟨_, List.getElem?_eq_getElem (by rw [HKL.out]; omega)⟩
              have c0 := kept_cell K2.out (HCL.out j x hx)
              by_cases he : x = k
              · obtain ⟨f1, f2⟩ := flt_eq hx he
                have F1 : Hid _ := f1
                have F2 : Hid _ := f2
                have he' : (x.toList == k.toList) = true := by rw [seq_iff]; simpa using he
                clear he hx f1 f2
                go_wp2
                go_roundg (nn - (j + 1))
                case measure => rw [hg2.out]; omega
                case rel => exact ⟨j + 1, mm, qc, qq, true, rfl, rfl, by go_num, rfl, by omega, by omega, (by show Rt _ _ _ _ _ _; rw [F1.out]; exact R.out), F2.out.symm, K2⟩
              · obtain ⟨f1, f2⟩ := flt_ne hx he
                have F2 : Hid _ := f2
                have he' : (x.toList == k.toList) = false := by rw [seq_iff]; simpa using he
                have HAP : Hid (∀ ty, _) := app_more R.out K2.out (by omega) f1.symm
                clear he hx f1 f2 R
                go_wp2_with (at_builtin; refine wpList_append_rt _ rfl _ _ 24 rfl _ _ rfl rfl HAP.out ?_; rintro v5 w5 ⟨pp, cc, rfl, R5, K5⟩; have R5' : Hid _ := R5; have K5' : Hid (Kept wo w5) := K5; clear R5 K5 HAP)
                go_roundg (nn - (j + 1))
                case measure => rw [hg2.out]; omega
                case rel => exact ⟨j + 1, mm + 1, cc, pp, bw, rfl, rfl, by go_num, rfl, by omega, by omega, R5', HB.out.trans F2.out.symm, K5'⟩
            · obtain rfl : j = nn := by omega
              have hR := R.out
              have hB := HB.out
              rw [List.take_of_length_le (by rw [HKL.out]; omega)] at hR hB
              clear R HB HAT HCL hg2
              cases bw with
              | true =>
                have HT : ks.filter (fun y => !decide (y = k)) ++ [k] = tk m ks k := by unfold tk; rw [if_pos hB.symm]
                have HAP : Hid (∀ ty, _) := app_more hR K2.out (by omega) HT
                have HRR : Hid (rr = (if ks.any (fun y => decide (y = k)) then rr else rr + 1)) := by rw [← hB]; rfl
                clear hR hB HT
                clear HKL
                go_wp2_with (first
                  | (at_builtin; refine wpList_append_rt _ rfl _ _ 24 rfl _ _ rfl rfl HAP.out ?_; rintro v5 w5 ⟨pp, cc, rfl, R5, K5⟩; have u5 := HU.out w5 pp (mm + 1) cc (tk m ks k) K5 R5; have R5' : Hid (Rt w5 wo.heap.size pp (mm + 1) cc (tk m (es.map (·.k)) k)) := (by rw [← hks]; exact R5); have U5 : Hid (Us (fun b => ∃ a, pp = some a ∧ b = a.block) w5 w.heap.size P m w.heap.size n q es (fun _ => none)) := u5; have K5' : Hid (Kept wo w5) := K5; have HR3 : Hid (rr = (if (es.map (·.k)).any (fun y => decide (y = k)) then rr else rr + 1)) := (by rw [← hks]; exact HRR.out); have g6 := get_walk u5 k HKS.out; clear R5 u5 K5 HAP)
                  | (go_at_call 9; (with_reducible refine g6.mono ?_); rintro r w6 ⟨rfl, x6, es1, q6, fd⟩; have FD : Hid (Fd (fun b => ∃ a, pp = some a ∧ b = a.block) w5 w6 w.heap.size P m n q q6 es es1 x6 (fun _ => none) k) := fd; have g7 := HG.out.cost fd HR3.out HRB.out; clear fd g6)
                  | (go_at_call 17; (with_reducible refine g7.mono ?_); rintro r w7 ⟨rfl, k7⟩; obtain ⟨n', hn', G7⟩ := HG.out.next K5'.out R5'.out (fun a ha => ⟨a, ha, rfl⟩) FD.out U5.out HN2.out k7 HR3.out HRB.out; have GG : Hid (Go_ w w7 P m w.heap.size q6 (es1 ++ [x6]) n' rr pp (mm + 1)) := G7; have g8 := G7.held; clear k7 g7 G7)
                  | (go_at_call 16; (with_reducible refine g8.mono ?_); rintro r w8 ⟨rfl, hw8⟩; rw [hw8]; clear hw8 g8))
                go_roundg (60 - (i + 1))
                case measure => rw [hg.out]; omega
                case rel => exact ⟨i + 1, rr, mm + 1, n', pp, cc, q6, _, rfl, rfl, by go_num, rfl, by omega, by omega, by omega, by omega, GG⟩
              | false =>
                have hfl := flt_all hB.symm
                rw [hfl] at hR
                have hmmn : j = mm := by rw [← hR.len, HKL.out]
                subst hmmn
                have hw1 : IntKind.i64.wrap ((rr : Int) + 1) = ((rr + 1 : Nat) : Int) := by rw [IntKind.wrap_i64]; omega
                obtain ⟨r2, hr2⟩ : ∃ r2, r2 = rr + 1 := ⟨_, rfl⟩
                rw [← hr2] at hw1
                have HRR : Hid (r2 = (if ks.any (fun y => decide (y = k)) then rr else rr + 1)) := by rw [← hB, hr2]; rfl
                have HR2 : Hid (r2 = rr + 1) := hr2
                clear hr2
                have hnb : ¬ ks.any (fun y => decide (y = k)) = true := by rw [← hB]; simp
                by_cases heq : j = m
                · have hlm : ks.length = m := by rw [← hR.len] at heq; exact heq
                  have HT : ks.tail ++ [k] = tk m ks k := by unfold tk; rw [if_neg hnb, if_pos hlm]
                  obtain ⟨g3, o3, e3, ad, hsl, R3⟩ := hR.tail (by omega)
                  have HAP : Hid (∀ ty, _) := app_more R3 K2.out (by omega) HT
                  have hq1 : (1 : Int) ≤ (j : Int) := by omega
                  have hq2 : (j : Int) ≤ (qc : Int) := by have := hR.le; omega
                  have hq3 : ((j : Int) == (m : Int)) = true := by simp; omega
                  subst e3
                  clear R3 HT hlm hR hB hfl hnb heq
                  clear HKL
                  go_wp2_with (first
                    | (at_builtin; refine wpList_append_rt _ rfl _ _ 24 rfl _ _ rfl rfl HAP.out ?_; rintro v5 w5 ⟨pp, cc, rfl, R5, K5⟩; have u5 := HU.out w5 pp ((j - 1) + 1) cc (tk m ks k) K5 R5; have R5' : Hid (Rt w5 wo.heap.size pp ((j - 1) + 1) cc (tk m (es.map (·.k)) k)) := (by rw [← hks]; exact R5); have U5 : Hid (Us (fun b => ∃ a, pp = some a ∧ b = a.block) w5 w.heap.size P m w.heap.size n q es (fun _ => none)) := u5; have K5' : Hid (Kept wo w5) := K5; have HR3 : Hid (r2 = (if (es.map (·.k)).any (fun y => decide (y = k)) then rr else rr + 1)) := (by rw [← hks]; exact HRR.out); have g6 := get_walk u5 k HKS.out; clear R5 u5 K5 HAP)
                    | (go_at_call 9; (with_reducible refine g6.mono ?_); rintro r w6 ⟨rfl, x6, es1, q6, fd⟩; have FD : Hid (Fd (fun b => ∃ a, pp = some a ∧ b = a.block) w5 w6 w.heap.size P m n q q6 es es1 x6 (fun _ => none) k) := fd; have g7 := HG.out.cost fd HR3.out HRB.out; clear fd g6)
                    | (go_at_call 17; (with_reducible refine g7.mono ?_); rintro r w7 ⟨rfl, k7⟩; obtain ⟨n', hn', G7⟩ := HG.out.next K5'.out R5'.out (fun a ha => ⟨a, ha, rfl⟩) FD.out U5.out HN2.out k7 HR3.out HRB.out; have GG : Hid (Go_ w w7 P m w.heap.size q6 (es1 ++ [x6]) n' r2 pp ((j - 1) + 1)) := G7; have g8 := G7.held; clear k7 g7 G7)
                    | (go_at_call 16; (with_reducible refine g8.mono ?_); rintro r w8 ⟨rfl, hw8⟩; rw [hw8]; clear hw8 g8))
                  go_roundg (60 - (i + 1))
                  case measure => rw [hg.out]; omega
                  case rel => exact ⟨i + 1, r2, (j - 1) + 1, n', pp, cc, q6, _, rfl, rfl, by go_num, rfl, by omega, by omega, (by have := HR2.out; omega), by omega, GG⟩
                · have hlm : ¬ ks.length = m := by rw [← hR.len] at heq; exact heq
                  have HT : ks ++ [k] = tk m ks k := by unfold tk; rw [if_neg hnb, if_neg hlm]
                  have HAP : Hid (∀ ty, _) := app_more hR K2.out (by omega) HT
                  have hq3 : ((j : Int) == (m : Int)) = false := by simp; omega
                  clear HT hlm hR hB hfl hnb heq
                  clear HKL
                  go_wp2_with (first
                    | (at_builtin; refine wpList_append_rt _ rfl _ _ 24 rfl _ _ rfl rfl HAP.out ?_; rintro v5 w5 ⟨pp, cc, rfl, R5, K5⟩; have u5 := HU.out w5 pp (j + 1) cc (tk m ks k) K5 R5; have R5' : Hid (Rt w5 wo.heap.size pp (j + 1) cc (tk m (es.map (·.k)) k)) := (by rw [← hks]; exact R5); have U5 : Hid (Us (fun b => ∃ a, pp = some a ∧ b = a.block) w5 w.heap.size P m w.heap.size n q es (fun _ => none)) := u5; have K5' : Hid (Kept wo w5) := K5; have HR3 : Hid (r2 = (if (es.map (·.k)).any (fun y => decide (y = k)) then rr else rr + 1)) := (by rw [← hks]; exact HRR.out); have g6 := get_walk u5 k HKS.out; clear R5 u5 K5 HAP)
                    | (go_at_call 9; (with_reducible refine g6.mono ?_); rintro r w6 ⟨rfl, x6, es1, q6, fd⟩; have FD : Hid (Fd (fun b => ∃ a, pp = some a ∧ b = a.block) w5 w6 w.heap.size P m n q q6 es es1 x6 (fun _ => none) k) := fd; have g7 := HG.out.cost fd HR3.out HRB.out; clear fd g6)
                    | (go_at_call 17; (with_reducible refine g7.mono ?_); rintro r w7 ⟨rfl, k7⟩; obtain ⟨n', hn', G7⟩ := HG.out.next K5'.out R5'.out (fun a ha => ⟨a, ha, rfl⟩) FD.out U5.out HN2.out k7 HR3.out HRB.out; have GG : Hid (Go_ w w7 P m w.heap.size q6 (es1 ++ [x6]) n' r2 pp (j + 1)) := G7; have g8 := G7.held; clear k7 g7 G7)
                    | (go_at_call 16; (with_reducible refine g8.mono ?_); rintro r w8 ⟨rfl, hw8⟩; rw [hw8]; clear hw8 g8))
                  go_roundg (60 - (i + 1))
                  case measure => rw [hg.out]; omega
                  case rel => exact ⟨i + 1, r2, j + 1, n', pp, cc, q6, _, rfl, rfl, by go_num, rfl, by omega, by omega, (by have := HR2.out; omega), by omega, GG⟩
      · have G5 := HG.out.low
        clear HG
        go_wp2
        go_ret
        exact ⟨rfl, G5⟩
    · have G5 := HG.out.low
      clear HG
      go_wp2
      go_ret
      exact ⟨rfl, G5⟩
end Go.Proofs.Ytbpelhfbgjplbaa.Ca
