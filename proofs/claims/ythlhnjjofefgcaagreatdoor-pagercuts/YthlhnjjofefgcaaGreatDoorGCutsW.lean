/- The walk of the law on cuts. Conditions: fates are in memory that was there, and take at most 2^47 bytes; the library's table is laid. -/
import Derived.Test.YthlhnjjofefgcaaGreatDoorGCuts
import Derived.BigQuiet
import Derived.OwnWalk
import Derived.Lib.SliceRun
namespace Go.Proofs.YthlhnjjofefgcaaGreatDoor.G
open Go.ChangeShapes Go.WideShapes Go.ChangeAt Go.RowKit
open D (Dk Ok DiskAt Sec Wr Ct CutsAt FatesAt whole)
open P (bs supL Sup supP Small)

theorem cut_text (s : ByteArray) (m : Nat) : ∃ T, s.extract 0 (min (s.size : Int) (m : Int)).toNat = T ∧ T.size ≤ m := by
  refine ⟨_, rfl, ?_⟩
  rw [ByteArray.size_extract]
  omega

/-- One cut in a row of one's own. -/
theorem cut_row {B base : Nat} {w : World} {v : Value} {x : Int} {vf : Value} {l : List Int} (h : w.ownsRow base 48 2 v 1 [.int .i64 x, vf]) (hf : FatesAt B w vf l) : CutsAt B w v [⟨x, l⟩] := by
  rcases h.2 with ⟨_, hn⟩ | ⟨g, cap, cur, rfl, h1, h2, h3, h4, h5, h6⟩
  · cases hn
  · refine ⟨some ⟨g, 0, none⟩, cap, rfl, h3, h4, fun j hj => ?_⟩
    have hj0 : j = 0 := by simpa using hj
    subst hj0
    have c0 := h.cells (g := g) rfl 0 (.int .i64 x) rfl
    have c1 := h.cells (g := g) rfl 1 vf rfl
    refine ⟨g, 0, vf, rfl, .inr ⟨_, _, _, h2, D.calm48⟩, ?_, ?_, hf⟩
    · simpa [Addr.add_lit] using c0
    · simpa [Addr.add_lit] using c1

theorem gkept {W W' : World} {B b g p : Nat} {q : Pq} (hG : GAt B W p b g q) (hK : D.Kept W W') : GAt B W' p b g q := by
  obtain ⟨a, e1, e2, k⟩ := hG.out; exact ⟨a, e1, e2, k.kept hK⟩
theorem gdisk {W : World} {B b g p : Nat} {q : Pq} (hG : GAt B W p b g q) : DiskAt B W b g q.disk := by
  obtain ⟨a, e1, e2, k⟩ := hG.out; rw [← e1, ← e2]; exact k.disk

theorem two_cells (W : World) (a b : Value) (n : Nat) (hn : W.heap.size = n) : ∀ j u, [a, b][j]? = some u → (W.alloc (.cells #[a, b] 48)).cell? ((⟨n, 0, none⟩ : Addr).add j) = some u := by
  subst hn
  intro j u hj
  rcases j with _ | _ | j
  · rw [← hj]; simp [Addr.add_lit]
  · rw [← hj]; simp [Addr.add_lit]
  · simp at hj

theorem st_walk {B : Nat} {W : World} {p b g : Nat} {q : Pq} (r : Int) (hG : GAt B W p b g q) (h1 : ((q.gen : Nat) : Int) = r) (h2 : q.root = r) : Calls Tryz.prog 20 #[.pointer (some ⟨p, 0, none⟩)] W fun e w' => e = .returned (.agg #[.int .u64 r, .int .i64 r]) ∧ GAt B w' p b g q ∧ D.Kept W w' := by
  refine (state_walk hG).mono ?_
  rintro e w' ⟨rfl, K⟩
  rw [h1, h2]
  exact ⟨rfl, gkept hG K, K⟩

theorem up_kept {w W : World} {B : Nat} (b1 : Below w.heap.size w W) (hwB : w.heap.size ≤ B) {W' : World} (o : D.On B W W') : Below w.heap.size w W' := b1.trans (o.below.mono hwB)

/-- How it goes with a cut, and with none. -/
theorem plan_cut (s t : ByteArray) (c : Ct) (k : Nat) (hk : k < 4) (hc : c.at_ = 11 + (k : Int)) {d : Dk} (hb : Bg 9 [c] d) : ∃ d2 d3 bb, wrt (mp2 s) d (keysOf (mp2 s)) 2 2 = (d2, 0, false) ∧ C2 s [c] d2 ∧ wrt (mp3 t) d2 (keysOf (mp3 t)) 3 3 = (d3, 40, bb) ∧ (En s t 40 d3.up 2 ∨ (En s t 40 d3.up 3 ∧ 0 < d3.up.fails)) := by
  obtain ⟨d2, e2, c2⟩ := c2_of s hb ⟨hb.flu.up, by intro c' r e; rw [hb.cuts] at e; injection e with e _; subst e; rw [hc, hb.since]; omega⟩
  obtain ⟨d3, bb, r, e3, en⟩ := en_cut s t c k hk hc c2
  refine ⟨d2, d3, bb, e2, c2, e3, ?_⟩
  rcases en.which with ⟨rfl, _⟩ | ⟨rfl, _, h⟩
  · exact .inl en
  · exact .inr ⟨en, h.resolve_left (by decide)⟩
theorem plan_ok (s t : ByteArray) {d : Dk} (hb : Bg 9 [] d) : ∃ d2 d3, wrt (mp2 s) d (keysOf (mp2 s)) 2 2 = (d2, 0, false) ∧ C2 s [] d2 ∧ wrt (mp3 t) d2 (keysOf (mp3 t)) 3 3 = (d3, 0, false) ∧ En s t 0 d3.up 3 := by
  obtain ⟨d2, e2, c2⟩ := c2_of s hb ⟨hb.flu.up, by intro c' r e; rw [hb.cuts] at e; cases e⟩
  obtain ⟨d3, e3, en⟩ := en_ok s t c2
  exact ⟨d2, d3, e2, c2, e3, en⟩

set_option maxRecDepth 100000 in
set_option maxHeartbeats 4000000 in
theorem cuts_walk (sa sb : ByteArray) (x : Int) (vf : Value) (l : List Int) (w : World) (hL : S.Lds w) (hf : FatesAt w.heap.size w vf l) (hl : l.length * 8 ≤ 140737488355328) :
    Calls Tryz.prog 4 #[.string sa, .string sb, .agg #[.int .i64 x, vf]] w fun e w' => e = .returned (.bool true) ∧ D.Kept w w' := by
  obtain ⟨k, hk, ek⟩ := D.low 3 7 (by omega) (by decide) x
  have ek' : bits .and .i64 x 7 = (k : Int) := ek
  have hk8 : k < 8 := hk
  obtain ⟨s, hs, hs100⟩ := cut_text sa 100
  obtain ⟨t, ht, ht100⟩ := cut_text sb 100
  have hs' : sa.extract 0 (min (sa.size : Int) 100).toNat = s := hs
  have ht' : sb.extract 0 (min (sb.size : Int) 100).toNat = t := ht
  clear ek hk hs ht
  obtain ⟨pf, cf, rfl, _⟩ := hf.out
  have hfd0 : ∀ (W : World) (x r : Int), (Instr.field 52 (.agg #[.int .u64 x, .int .i64 r]) 0).run Tryz.prog W = .ok (.int .u64 x) W := fun _ _ _ => by kernel_rfl
  have hfd1 : ∀ (W : World) (x r : Int), (Instr.field 52 (.agg #[.int .u64 x, .int .i64 r]) 1).run Tryz.prog W = .ok (.int .i64 r) W := fun _ _ _ => by kernel_rfl
  by_cases h4 : k < 4
  · obtain ⟨i0, hi, hz0, hz1, hz2⟩ := info_parts D.info48
    go_enter Tryz.func4, Tryz.ntmps4
    go_wp2
    go_quiet (fail)
    have hW : D.Kept w ((w.alloc (.cells #[.int .i64 x, .slice pf l.length cf] 48)).drewN nq) := ((D.Kept.refl w).alloc _).drewN nq
    have hP : ((w.alloc (.cells #[.int .i64 x, .slice pf l.length cf] 48)).drewN nq).heap[w.heap.size]? = some (.cells #[.int .i64 x, .slice pf l.length cf] 48) := heap_alloc_new w _
    generalize (w.alloc (.cells #[.int .i64 x, .slice pf l.length cf] 48)).drewN nq = W0 at hW hP ⊢
    have q0 : W0.cell? ⟨w.heap.size, 0, none⟩ = some (.int .i64 x) := by rw [cell_of_row W0 _ _ _ _ _ hP]; rfl
    have q1 : W0.cell? ⟨w.heap.size, 1, none⟩ = some (.slice pf l.length cf) := by rw [cell_of_row W0 _ _ _ _ _ hP]; rfl
    have qa0 : ∀ o, (W0.alloc o).cell? ⟨w.heap.size, 0, none⟩ = some (.int .i64 x) := fun o => Lib.cell?_alloc_some o q0
    have qa1 : ∀ o, (W0.alloc o).cell? ⟨w.heap.size, 1, none⟩ = some (.slice pf l.length cf) := fun o => Lib.cell?_alloc_some o q1
    have hW2 : D.Kept w ((W0.alloc (.cells #[] 48)).alloc (.cells #[.int .i64 (11 + (k : Int)), .slice pf l.length cf] 48)) := (hW.alloc _).alloc _
    have qn := two_cells (W0.alloc (.cells #[] 48)) (.int .i64 (11 + (k : Int))) (.slice pf l.length cf) (W0.heap.size + 1) (by show (W0.heap.push _).size = _; rw [Array.size_push])
    have qo : ∀ u ∈ [Value.int .i64 (11 + (k : Int)), .slice pf l.length cf], u.oneCell' = true := by intro u hu; simp at hu; rcases hu with rfl | rfl <;> rfl
    go_wp2_with (first
      | (at_builtin; refine wpList_append_own _ rfl _ _ 49 rfl w.heap.size 48 i0 (.agg #[.int .i64 0, .slice none 0 0]) 2 32 Tryz.underlying49 hi hz0 hz1 hz2 rfl (by decide) _ _ _ rfl ((World.ownsRow_made W0 #[] 0 hW.size (Nat.zero_le _) rfl).alloc _) ⟨W0.heap.size + 1, 0, none⟩ 1 1 [.int .i64 (11 + (k : Int)), .slice pf l.length cf] rfl rfl qn qo (by decide) (by decide) hW2.size ?_; intro v1 w1 ow gw _; have K1 : D.Kept w w1 := ⟨hW2.out.grown gw hW2.size (fun _ e => by cases e; exact hW.size)⟩; have f7 : Calls Tryz.prog 7 #[.int .i64 9, v1] w1 _ := begun_walk 9 (by decide) (by decide) (cut_row ow (hf.on (K1.on (Nat.le_refl _)))) K1.size (by simp) (by intro c hc; simp at hc; subst hc; exact hl) ⟨rfl, by intro c r e; injection e with e _; subst e; show ((0 + 7 : Nat) : Int) ≤ 11 + (k : Int); omega⟩; clear ow gw)
      | (go_at_call 7; (with_reducible refine f7.mono ?_); rintro e w2 ⟨b, g, p, d, rfl, hbg, hG2a, K2⟩; obtain ⟨B, hG2, hwB, hB2⟩ : ∃ B, GAt B w2 p b g (opened d (1, -1)) ∧ w.heap.size ≤ B ∧ B ≤ w2.heap.size := ⟨_, hG2a, K1.size, K2.size⟩; have b2 : Below w.heap.size w w2 := (K1.trans K2).out; have f8 := awake_walk w2 (lds_kept hL ⟨b2⟩); clear f7 hG2a))
    obtain ⟨d2, d3, bb, e2, c2, e3, en | ⟨en, hfa⟩⟩ := plan_cut s t ⟨11 + (k : Int), l⟩ k h4 rfl hbg
    · go_wp2_with (first
        | (go_at_call 8; (with_reducible refine f8.mono ?_); rintro e w3 ⟨rfl, K3⟩; have b3 := b2.trans (K3.out.mono b2.size); have hB3 := Nat.le_trans hB2 K3.size; have hG3 := gkept hG2 K3; have f10 := cutsA hbg s hs100 w3 hG3 hB3 (lds_kept hL ⟨b3⟩); clear f8)
        | (go_at_call 10; (with_reducible refine f10.mono ?_); rintro e w4 ⟨rfl, hG4, n4⟩; have b4 := b3.trans (n4.below.mono hwB); have hB4 := Nat.le_trans hB3 n4.size; have f13 := cutsB hbg s e2 w4 hG4 hB4; clear f10)
        | (go_at_call 13; (with_reducible refine f13.mono ?_); rintro e w5 ⟨rfl, hG5, n5⟩; have b5 := b4.trans (n5.below.mono hwB); have hB5 := Nat.le_trans hB4 n5.size; have g10 := cutsC hbg s t ht100 w5 hG5 hB5 (lds_kept hL ⟨b5⟩); clear f13)
        | (go_at_call 10; (with_reducible refine g10.mono ?_); rintro e w6 ⟨rfl, hG6, n6⟩; have b6 := b5.trans (n6.below.mono hwB); have hB6 := Nat.le_trans hB5 n6.size; have f11 := cutsD hbg s t w6 hG6 hB6; clear g10)
        | (go_at_call 11; (with_reducible refine f11.mono ?_); rintro e w7 ⟨rfl, hG7, n7⟩; have b7 := b6.trans (n7.below.mono hwB); have hB7 := Nat.le_trans hB6 n7.size; have g13 := cutsE s t c2 e3 (.inr (by decide)) w7 hG7 hB7; clear f11)
        | (go_at_call 13; (with_reducible refine g13.mono ?_); rintro e w8 ⟨rfl, hD8, n8⟩; have b8 := b7.trans (n8.below.mono hwB); have hB8 := Nat.le_trans hB7 n8.size; have f19 := D.up_walk hD8; clear g13)
        | (go_at_call 19; (with_reducible refine f19.mono ?_); rintro e w9 ⟨rfl, hD9, n9⟩; have b9 := b8.trans (n9.below.mono hwB); have hB9 := Nat.le_trans hB8 n9.size; have f15 := cutsF en w9 hD9 hB9; clear f19)
        | (go_at_call 15; (with_reducible refine f15.mono ?_); rintro e wA ⟨p2, rfl, hGA, nA⟩; have bA := b9.trans (nA.below.mono hwB); have hBA := Nat.le_trans hB9 nA.size; have f20 := st_walk 2 hGA rfl rfl; clear f15)
        | (go_at_call 20; (with_reducible refine f20.mono ?_); rintro e wB ⟨rfl, hGB, KB⟩; have bB := bA.trans (KB.out.mono bA.size); have hBB := Nat.le_trans hBA KB.size; have f16 : Calls Tryz.prog 16 #[.pointer (some ⟨p2, 0, none⟩), .int .i64 2] wB _ := cutsG en wB hGB; clear f20)
        | (go_at_call 16; (with_reducible refine f16.mono ?_); rintro e wC ⟨rfl, hGC, nC⟩; have bC := bB.trans (nC.below.mono hwB); have hBC := Nat.le_trans hBB nC.size; have KD : D.Kept wC (wC.alloc (.cells #[.int .i64 2] 3)) := (D.Kept.refl wC).alloc _; have hGD := gkept hGC KD; have hBD := Nat.le_trans hBC KD.size; have bD := bC.trans (KD.out.mono bC.size); have f21 := cutsH hs100 en _ hGD hBD (heap_alloc_new wC _); clear f16)
        | (go_at_call 21; (with_reducible refine f21.mono ?_); rintro e wE ⟨rfl, hGE, nE⟩; have bE := bD.trans (nE.below.mono hwB); have hBE := Nat.le_trans hBD nE.size; have KF : D.Kept wE (wE.alloc (.cells #[.int .i64 2, .int .i64 2, .int .u64 2, .string s] 55)) := (D.Kept.refl wE).alloc _; have hGF := gkept hGE KF; have hBF := Nat.le_trans hBE KF.size; have bF := bE.trans (KF.out.mono bE.size); have qF := heap_alloc_new wE (.cells #[.int .i64 2, .int .i64 2, .int .u64 2, .string s] 55); have g20 := st_walk 2 hGF rfl rfl; clear f21)
        | (go_at_call 20; (with_reducible refine g20.mono ?_); rintro e wG ⟨rfl, hGG, KG⟩; have bG := bF.trans (KG.out.mono bF.size); have hBG := Nat.le_trans hBF KG.size; have qG := KG.block qF; have h20 := st_walk 2 hGG rfl rfl; clear g20)
        | (go_at_call 20; (with_reducible refine h20.mono ?_); rintro e wH ⟨rfl, hGH, KH⟩; have bH := bG.trans (KH.out.mono bG.size); have hBH := Nat.le_trans hBG KH.size; have qH := KH.block qG; have cH : wH.cell? ⟨wE.heap.size, 3, none⟩ = some (.string s) := (by rw [cell_of_row wH _ _ _ _ _ qH]; rfl); clear h20))
      go_ret
      exact ⟨rfl, ⟨bH⟩⟩
    · go_wp2_with (first
        | (go_at_call 8; (with_reducible refine f8.mono ?_); rintro e w3 ⟨rfl, K3⟩; have b3 := b2.trans (K3.out.mono b2.size); have hB3 := Nat.le_trans hB2 K3.size; have hG3 := gkept hG2 K3; have f10 := cutsA hbg s hs100 w3 hG3 hB3 (lds_kept hL ⟨b3⟩); clear f8)
        | (go_at_call 10; (with_reducible refine f10.mono ?_); rintro e w4 ⟨rfl, hG4, n4⟩; have b4 := b3.trans (n4.below.mono hwB); have hB4 := Nat.le_trans hB3 n4.size; have f13 := cutsB hbg s e2 w4 hG4 hB4; clear f10)
        | (go_at_call 13; (with_reducible refine f13.mono ?_); rintro e w5 ⟨rfl, hG5, n5⟩; have b5 := b4.trans (n5.below.mono hwB); have hB5 := Nat.le_trans hB4 n5.size; have g10 := cutsC hbg s t ht100 w5 hG5 hB5 (lds_kept hL ⟨b5⟩); clear f13)
        | (go_at_call 10; (with_reducible refine g10.mono ?_); rintro e w6 ⟨rfl, hG6, n6⟩; have b6 := b5.trans (n6.below.mono hwB); have hB6 := Nat.le_trans hB5 n6.size; have f11 := cutsD hbg s t w6 hG6 hB6; clear g10)
        | (go_at_call 11; (with_reducible refine f11.mono ?_); rintro e w7 ⟨rfl, hG7, n7⟩; have b7 := b6.trans (n7.below.mono hwB); have hB7 := Nat.le_trans hB6 n7.size; have g13 := cutsE s t c2 e3 (.inr (by decide)) w7 hG7 hB7; clear f11)
        | (go_at_call 13; (with_reducible refine g13.mono ?_); rintro e w8 ⟨rfl, hD8, n8⟩; have b8 := b7.trans (n8.below.mono hwB); have hB8 := Nat.le_trans hB7 n8.size; have f19 := D.up_walk hD8; clear g13)
        | (go_at_call 19; (with_reducible refine f19.mono ?_); rintro e w9 ⟨rfl, hD9, n9⟩; have b9 := b8.trans (n9.below.mono hwB); have hB9 := Nat.le_trans hB8 n9.size; have f15 := cutsF en w9 hD9 hB9; clear f19)
        | (go_at_call 15; (with_reducible refine f15.mono ?_); rintro e wA ⟨p2, rfl, hGA, nA⟩; have bA := b9.trans (nA.below.mono hwB); have hBA := Nat.le_trans hB9 nA.size; have f20 := st_walk 3 hGA rfl rfl; clear f15)
        | (go_at_call 20; (with_reducible refine f20.mono ?_); rintro e wB ⟨rfl, hGB, KB⟩; have bB := bA.trans (KB.out.mono bA.size); have hBB := Nat.le_trans hBA KB.size; have f16 : Calls Tryz.prog 16 #[.pointer (some ⟨p2, 0, none⟩), .int .i64 3] wB _ := cutsG en wB hGB; clear f20)
        | (go_at_call 16; (with_reducible refine f16.mono ?_); rintro e wC ⟨rfl, hGC, nC⟩; have bC := bB.trans (nC.below.mono hwB); have hBC := Nat.le_trans hBB nC.size; have KD : D.Kept wC (wC.alloc (.cells #[.int .i64 2] 3)) := (D.Kept.refl wC).alloc _; have hGD := gkept hGC KD; have hBD := Nat.le_trans hBC KD.size; have bD := bC.trans (KD.out.mono bC.size); have f21 := cutsH hs100 en _ hGD hBD (heap_alloc_new wC _); clear f16)
        | (go_at_call 21; (with_reducible refine f21.mono ?_); rintro e wE ⟨rfl, hGE, nE⟩; have bE := bD.trans (nE.below.mono hwB); have hBE := Nat.le_trans hBD nE.size; have KF : D.Kept wE (wE.alloc (.cells #[.int .i64 2, .int .i64 2, .int .u64 2, .string s] 55)) := (D.Kept.refl wE).alloc _; have hGF := gkept hGE KF; have hBF := Nat.le_trans hBE KF.size; have bF := bE.trans (KF.out.mono bE.size); have qF := heap_alloc_new wE (.cells #[.int .i64 2, .int .i64 2, .int .u64 2, .string s] 55); have g20 := st_walk 3 hGF rfl rfl; clear f21)
        | (go_at_call 20; (with_reducible refine g20.mono ?_); rintro e wG ⟨rfl, hGG, KG⟩; have bG := bF.trans (KG.out.mono bF.size); have hBG := Nat.le_trans hBF KG.size; have KH : D.Kept wG (wG.alloc (.cells #[.int .i64 3] 3)) := (D.Kept.refl wG).alloc _; have hGH := gkept hGG KH; have hBH := Nat.le_trans hBG KH.size; have bH := bG.trans (KH.out.mono bG.size); have g21 := cutsI ht100 en _ hGH hBH (heap_alloc_new wG _); clear g20)
        | (go_at_call 21; (with_reducible refine g21.mono ?_); rintro e wI ⟨rfl, hGI, nI⟩; have bI := bH.trans (nI.below.mono hwB); have hBI := Nat.le_trans hBH nI.size; have KJ : D.Kept wI (wI.alloc (.cells #[.int .i64 3, .int .i64 3, .int .u64 3, .string t] 55)) := (D.Kept.refl wI).alloc _; have hGJ := gkept hGI KJ; have bJ := bI.trans (KJ.out.mono bI.size); have qJ := heap_alloc_new wI (.cells #[.int .i64 3, .int .i64 3, .int .u64 3, .string t] 55); have h20 := st_walk 3 hGJ rfl rfl; clear g21)
        | (go_at_call 20; (with_reducible refine h20.mono ?_); rintro e wK ⟨rfl, hGK, KK⟩; have qK := KK.block qJ; have bK := bJ.trans (KK.out.mono bJ.size); have i20 := st_walk 3 hGK rfl rfl; clear h20)
        | (go_at_call 20; (with_reducible refine i20.mono ?_); rintro e wL ⟨rfl, hGL, KL⟩; have qL := KL.block qK; have bL := bK.trans (KL.out.mono bK.size); have cL : wL.cell? ⟨wI.heap.size, 3, none⟩ = some (.string t) := (by rw [cell_of_row wL _ _ _ _ _ qL]; rfl); have f22 := D.fails_walk (gdisk hGL); obtain ⟨F, hF, hF0⟩ : ∃ F, (qS d3.up 3 s t).disk.fails = F ∧ (0 : Int) < (F : Int) := ⟨_, rfl, Int.ofNat_lt.2 hfa⟩; rw [hF] at f22; clear i20)
        | (go_at_call 22; (with_reducible refine f22.mono ?_); rintro e wM ⟨rfl, hwM⟩; rw [hwM]; clear hwM f22))
      go_ret
      rw [decide_eq_true (show 0 < F by omega)]
      exact ⟨rfl, ⟨bL⟩⟩
  · have hge : (4 : Int) ≤ (k : Int) := by omega
    go_enter Tryz.func4, Tryz.ntmps4
    go_wp2
    go_quiet (fail)
    have hW : D.Kept w ((w.alloc (.cells #[.int .i64 x, .slice pf l.length cf] 48)).drewN nq) := ((D.Kept.refl w).alloc _).drewN nq
    have hP : ((w.alloc (.cells #[.int .i64 x, .slice pf l.length cf] 48)).drewN nq).heap[w.heap.size]? = some (.cells #[.int .i64 x, .slice pf l.length cf] 48) := heap_alloc_new w _
    generalize (w.alloc (.cells #[.int .i64 x, .slice pf l.length cf] 48)).drewN nq = W0 at hW hP ⊢
    have q0 : W0.cell? ⟨w.heap.size, 0, none⟩ = some (.int .i64 x) := by rw [cell_of_row W0 _ _ _ _ _ hP]; rfl
    have q1 : W0.cell? ⟨w.heap.size, 1, none⟩ = some (.slice pf l.length cf) := by rw [cell_of_row W0 _ _ _ _ _ hP]; rfl
    have qa0 : ∀ o, (W0.alloc o).cell? ⟨w.heap.size, 0, none⟩ = some (.int .i64 x) := fun o => Lib.cell?_alloc_some o q0
    have qa1 : ∀ o, (W0.alloc o).cell? ⟨w.heap.size, 1, none⟩ = some (.slice pf l.length cf) := fun o => Lib.cell?_alloc_some o q1
    have K1 : D.Kept w (W0.alloc (.cells #[] 48)) := hW.alloc _
    have f7 : Calls Tryz.prog 7 #[.int .i64 9, .slice (some ⟨W0.heap.size, 0, none⟩) 0 0] (W0.alloc (.cells #[] 48)) _ := begun_walk 9 (by decide) (by decide) (⟨some ⟨W0.heap.size, 0, none⟩, 0, rfl, Nat.le_refl _, Nat.zero_le _, fun j hj => by cases hj⟩ : CutsAt w.heap.size (W0.alloc (.cells #[] 48)) (.slice (some ⟨W0.heap.size, 0, none⟩) 0 0) []) K1.size (Nat.zero_le _) (by intro _ h; cases h) ⟨rfl, by intro _ _ h; cases h⟩
    go_wp2_with (go_at_call 7; (with_reducible refine f7.mono ?_); rintro e w2 ⟨b, g, p, d, rfl, hbg, hG2a, K2⟩; obtain ⟨B, hG2, hwB, hB2⟩ : ∃ B, GAt B w2 p b g (opened d (1, -1)) ∧ w.heap.size ≤ B ∧ B ≤ w2.heap.size := ⟨_, hG2a, K1.size, K2.size⟩; have b2 : Below w.heap.size w w2 := (K1.trans K2).out; have f8 := awake_walk w2 (lds_kept hL ⟨b2⟩); clear f7 hG2a)
    obtain ⟨d2, d3, e2, c2, e3, en⟩ := plan_ok s t hbg
    go_wp2_with (first
      | (go_at_call 8; (with_reducible refine f8.mono ?_); rintro e w3 ⟨rfl, K3⟩; have b3 := b2.trans (K3.out.mono b2.size); have hB3 := Nat.le_trans hB2 K3.size; have hG3 := gkept hG2 K3; have f10 := cutsA hbg s hs100 w3 hG3 hB3 (lds_kept hL ⟨b3⟩); clear f8)
      | (go_at_call 10; (with_reducible refine f10.mono ?_); rintro e w4 ⟨rfl, hG4, n4⟩; have b4 := b3.trans (n4.below.mono hwB); have hB4 := Nat.le_trans hB3 n4.size; have f13 := cutsB hbg s e2 w4 hG4 hB4; clear f10)
      | (go_at_call 13; (with_reducible refine f13.mono ?_); rintro e w5 ⟨rfl, hG5, n5⟩; have b5 := b4.trans (n5.below.mono hwB); have hB5 := Nat.le_trans hB4 n5.size; have g10 := cutsC hbg s t ht100 w5 hG5 hB5 (lds_kept hL ⟨b5⟩); clear f13)
      | (go_at_call 10; (with_reducible refine g10.mono ?_); rintro e w6 ⟨rfl, hG6, n6⟩; have b6 := b5.trans (n6.below.mono hwB); have hB6 := Nat.le_trans hB5 n6.size; have f11 := cutsD hbg s t w6 hG6 hB6; clear g10)
      | (go_at_call 11; (with_reducible refine f11.mono ?_); rintro e w7 ⟨rfl, hG7, n7⟩; have b7 := b6.trans (n7.below.mono hwB); have hB7 := Nat.le_trans hB6 n7.size; have g13 := cutsE s t c2 e3 (.inl ⟨rfl, rfl⟩) w7 hG7 hB7; clear f11)
      | (go_at_call 13; (with_reducible refine g13.mono ?_); rintro e w8 ⟨rfl, hD8, n8⟩; have b8 := b7.trans (n8.below.mono hwB); have hB8 := Nat.le_trans hB7 n8.size; have f19 := D.up_walk hD8; clear g13)
      | (go_at_call 19; (with_reducible refine f19.mono ?_); rintro e w9 ⟨rfl, hD9, n9⟩; have b9 := b8.trans (n9.below.mono hwB); have hB9 := Nat.le_trans hB8 n9.size; have f15 := cutsF en w9 hD9 hB9; clear f19)
      | (go_at_call 15; (with_reducible refine f15.mono ?_); rintro e wA ⟨p2, rfl, hGA, nA⟩; have bA := b9.trans (nA.below.mono hwB); have hBA := Nat.le_trans hB9 nA.size; have f20 := st_walk 3 hGA rfl rfl; clear f15)
      | (go_at_call 20; (with_reducible refine f20.mono ?_); rintro e wB ⟨rfl, hGB, KB⟩; have bB := bA.trans (KB.out.mono bA.size); have hBB := Nat.le_trans hBA KB.size; have f16 : Calls Tryz.prog 16 #[.pointer (some ⟨p2, 0, none⟩), .int .i64 3] wB _ := cutsG en wB hGB; clear f20)
      | (go_at_call 16; (with_reducible refine f16.mono ?_); rintro e wC ⟨rfl, hGC, nC⟩; have bC := bB.trans (nC.below.mono hwB); have hBC := Nat.le_trans hBB nC.size; have KD : D.Kept wC (wC.alloc (.cells #[.int .i64 2] 3)) := (D.Kept.refl wC).alloc _; have hGD := gkept hGC KD; have hBD := Nat.le_trans hBC KD.size; have bD := bC.trans (KD.out.mono bC.size); have f21 := cutsH hs100 en _ hGD hBD (heap_alloc_new wC _); clear f16)
      | (go_at_call 21; (with_reducible refine f21.mono ?_); rintro e wE ⟨rfl, hGE, nE⟩; have bE := bD.trans (nE.below.mono hwB); have hBE := Nat.le_trans hBD nE.size; have KF : D.Kept wE (wE.alloc (.cells #[.int .i64 2, .int .i64 2, .int .u64 2, .string s] 55)) := (D.Kept.refl wE).alloc _; have hGF := gkept hGE KF; have hBF := Nat.le_trans hBE KF.size; have bF := bE.trans (KF.out.mono bE.size); have qF := heap_alloc_new wE (.cells #[.int .i64 2, .int .i64 2, .int .u64 2, .string s] 55); have g20 := st_walk 3 hGF rfl rfl; clear f21)
      | (go_at_call 20; (with_reducible refine g20.mono ?_); rintro e wG ⟨rfl, hGG, KG⟩; have bG := bF.trans (KG.out.mono bF.size); have hBG := Nat.le_trans hBF KG.size; have KH : D.Kept wG (wG.alloc (.cells #[.int .i64 3] 3)) := (D.Kept.refl wG).alloc _; have hGH := gkept hGG KH; have hBH := Nat.le_trans hBG KH.size; have bH := bG.trans (KH.out.mono bG.size); have g21 := cutsI ht100 en _ hGH hBH (heap_alloc_new wG _); clear g20)
      | (go_at_call 21; (with_reducible refine g21.mono ?_); rintro e wI ⟨rfl, hGI, nI⟩; have bI := bH.trans (nI.below.mono hwB); have hBI := Nat.le_trans hBH nI.size; have KJ : D.Kept wI (wI.alloc (.cells #[.int .i64 3, .int .i64 3, .int .u64 3, .string t] 55)) := (D.Kept.refl wI).alloc _; have hGJ := gkept hGI KJ; have bJ := bI.trans (KJ.out.mono bI.size); have qJ := heap_alloc_new wI (.cells #[.int .i64 3, .int .i64 3, .int .u64 3, .string t] 55); have h20 := st_walk 3 hGJ rfl rfl; clear g21)
      | (go_at_call 20; (with_reducible refine h20.mono ?_); rintro e wK ⟨rfl, hGK, KK⟩; have qK := KK.block qJ; have bK := bJ.trans (KK.out.mono bJ.size); have i20 := st_walk 3 hGK rfl rfl; clear h20)
      | (go_at_call 20; (with_reducible refine i20.mono ?_); rintro e wL ⟨rfl, hGL, KL⟩; have qL := KL.block qK; have bL := bK.trans (KL.out.mono bK.size); have cL : wL.cell? ⟨wI.heap.size, 3, none⟩ = some (.string t) := (by rw [cell_of_row wL _ _ _ _ _ qL]; rfl); clear i20))
    go_ret
    exact ⟨rfl, ⟨bL⟩⟩
end Go.Proofs.YthlhnjjofefgcaaGreatDoor.G
