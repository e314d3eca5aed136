/- The walks of decl, params, ret, of the reference's decls. Conditions: names are short; few declarations. -/
import Derived.Test.YtgdafolidifdoaaDoorIO
import Derived.Test.YtgdafolidifdoaaDoorIE
namespace Go.Proofs.YtgdafolidifdoaaDoor.Tp
open Go.ChangeShapes Go.WideShapes Go.ChangeAt Go.RowKit

set_option maxRecDepth 100000 in
set_option maxHeartbeats 1000000 in
theorem decl_walk (d : Dc) (hd : d.n.size ≤ 6) (w : World) : Calls Tryd.prog 31 #[.agg #[.string d.n, .int .i64 d.t, .int .i64 d.pos]] w fun e w' => e = .returned (.string (dct d)) ∧ Kept w w' := by
  have HD : Hid (dct d = d.n ++ ⟨#[58, 32]⟩ ++ typ d.t) := rfl
  have hs := typ_size d.t
  generalize dct d = res at *
  obtain ⟨a, t, pos⟩ := d
  dsimp only at *
  have HT : Hid (∀ W, Calls Tryd.prog 12 #[.int .i64 t] W fun e w' => e = .returned (.string (typ t)) ∧ w' = W) := fun W => type_walk t W
  have HK : Hid (Kept w (w.alloc (.cells #[.string a, .int .i64 t, .int .i64 pos] 44))) := (Kept.refl w).alloc _
  have HSA : Hid (∀ W, Kept (w.alloc (.cells #[.string a, .int .i64 t, .int .i64 pos] 44)) W → W.cell? ⟨w.heap.size, 0, none⟩ = some (.string a) ∧ W.cell? ⟨w.heap.size, 1, none⟩ = some (.int .i64 t)) := fun W hW => by
    have hb := hW.block (alloc_at w _)
    exact ⟨by rw [cell_of_row _ w.heap.size 0 _ _ _ hb]; rfl, by rw [cell_of_row _ w.heap.size 1 _ _ _ hb]; rfl⟩
  have b1 : ¬ 9223372036854775807 < (a : ByteArray).size + (⟨#[58, 32]⟩ : ByteArray).size := by simp only [lsz, List.length_cons, List.length_nil]; omega
  have c1 : ¬ 9223372036854775807 < a.size + 2 := by omega
  have b2 : ¬ 9223372036854775807 < (a ++ ⟨#[58, 32]⟩ : ByteArray).size + (typ t : ByteArray).size := by simp only [ByteArray.size_append, lsz, List.length_cons, List.length_nil]; omega
  have c2 : ¬ 9223372036854775807 < a.size + 2 + (typ t).size := by omega
  generalize typ t = ty at *
  go_enter Tryd.func31, Tryd.ntmps31
  go_wp2
  go_region_held3 (fun W => W.cell? ⟨w.heap.size, 0, none⟩ = some (.string a) ∧ W.cell? ⟨w.heap.size, 1, none⟩ = some (.int .i64 t)) (exact HSA.out _ (by (repeat (first | assumption | exact Kept.refl _ | apply Kept.drew | apply Kept.alloc)))) (first
    | (go_at_call 12; (with_reducible refine (HT.out _).mono ?_); rintro e w' ⟨rfl, rfl⟩))
  all_goals go_wp2
  all_goals go_ret
  all_goals exact ⟨by rw [HD.out]; rfl, HK.out.trans (by (repeat (first | assumption | exact Kept.refl _ | apply Kept.drew | apply Kept.alloc)))⟩

set_option maxRecDepth 100000 in
set_option maxHeartbeats 1000000 in
theorem ret_walk (t : Int) (h : 0 ≤ t ∧ t ≤ 3) (w : World) : Calls Tryd.prog 33 #[.int .i64 t] w fun e w' => e = .returned (.string (rtt t)) ∧ w' = w := by
  have : t = 0 ∨ t = 1 ∨ t = 2 ∨ t = 3 := by omega
  rcases this with rfl | rfl | rfl | rfl
  · have f : Calls Tryd.prog 12 #[.int .i64 0] w fun e w' => e = .returned (.string ⟨#[]⟩) ∧ w' = w := type_walk 0 w
    go_enter Tryd.func33, Tryd.ntmps33
    go_wp2_with (go_at_call 12; (with_reducible refine f.mono ?_); rintro e w' ⟨rfl, rfl⟩)
    go_ret
    exact ⟨rfl, rfl⟩
  · have f : Calls Tryd.prog 12 #[.int .i64 1] w fun e w' => e = .returned (.string ⟨#[105, 110, 116]⟩) ∧ w' = w := type_walk 1 w
    go_enter Tryd.func33, Tryd.ntmps33
    go_wp2_with (go_at_call 12; (with_reducible refine f.mono ?_); rintro e w' ⟨rfl, rfl⟩)
    go_ret
    exact ⟨rfl, rfl⟩
  · have f : Calls Tryd.prog 12 #[.int .i64 2] w fun e w' => e = .returned (.string ⟨#[114, 101, 102]⟩) ∧ w' = w := type_walk 2 w
    go_enter Tryd.func33, Tryd.ntmps33
    go_wp2_with (go_at_call 12; (with_reducible refine f.mono ?_); rintro e w' ⟨rfl, rfl⟩)
    go_ret
    exact ⟨rfl, rfl⟩
  · have f : Calls Tryd.prog 12 #[.int .i64 3] w fun e w' => e = .returned (.string ⟨#[102, 117, 110]⟩) ∧ w' = w := type_walk 3 w
    go_enter Tryd.func33, Tryd.ntmps33
    go_wp2_with (go_at_call 12; (with_reducible refine f.mono ?_); rintro e w' ⟨rfl, rfl⟩)
    go_ret
    exact ⟨rfl, rfl⟩

set_option maxRecDepth 100000 in
set_option maxHeartbeats 2000000 in
theorem params_walk {w : World} {p : Option Addr} {n c : Nat} {ds : List Dc} (h : Dl w p n c ds) (ok : Dok ds) :
    Calls Tryd.prog 32 #[.slice p n c] w fun e w' => e = .returned (.string (lst (ds.map dct))) ∧ Kept w w' := by
  obtain ⟨i0, hi0, hz0, hz1, hz2⟩ := info_parts info9
  have hn4 : n ≤ 4 := by rw [← h.len]; exact ok.1
  have hc9 : c ≤ 9223372036854775807 := by have := h.cap; unfold maxLen at this; omega
  have mk0 := run_make (P := Tryd.prog) w 33 9 i0 _ Tryd.underlying33 hi0 hz0 .i64 .i64 (n : Nat) (n : Nat) (by omega) (by omega) (by rw [hz2]; omega) (by omega)
  obtain ⟨Z, hZ⟩ : ∃ Z, Z = madeCells (Value.string ⟨#[]⟩).cells ((n : Int).toNat * i0.size) := ⟨_, rfl⟩
  rw [← hZ] at mk0
  have hZs : Z.size = n := by rw [hZ, size_madeCells, hz1]; simp
  have mk : (Instr.makeSlice 33 (.int .i64 (n : Nat)) (.int .i64 (n : Nat))).run Tryd.prog w = .ok (.slice (some ⟨w.heap.size, 0, none⟩) n n) (w.alloc (.cells Z 9)) := mk0
  clear mk0 hZ hi0 hz0 hz1 hz2
  have HD : Hid (Dl w p n c ds) := h
  have HN : Hid (∀ x ∈ ds, x.n.size ≤ 6) := ok.2
  have HLS : Hid ((lst (ds.map dct)).size ≤ 60) := lst_dct ok
  have HZ : Hid (Z.size = n) := hZs
  have hle := h.le
  clear h ok hZs
  go_enter Tryd.func32, Tryd.ntmps32
  go_wp2
  go_loopg [11] n (fun g' iv wx => ∃ (i : Nat) (cur : Array Value), i + g' = n ∧ iv = .int .i64 (i : Nat) ∧ wx.heap[w.heap.size]? = some (.cells cur 9) ∧ cur.size = n ∧ (∀ (j : Nat) (x : Dc), j < i → ds[j]? = some x → cur[j]? = some (.string (dct x))) ∧ Kept w wx)
  case atStart => exact ⟨0, Z, by omega, rfl, alloc_at w _, HZ.out, fun j x hj => by omega, (Kept.refl w).alloc _⟩
  case round =>
    obtain ⟨i, cur, hg, rfl, hb, hs, hf, hk⟩ := hrel
    cases gk with
    | succ g' =>
      have hlt : (i : Int) < (n : Nat) := by omega
      have hltn : i < n := by omega
      have hi4 : i < 4 := by omega
      have HG : Hid (i + g' + 1 = n) := by show i + g' + 1 = n; omega
      obtain ⟨d, hd⟩ : ∃ d, ds[i]? = some d := ⟨_, List.getElem?_eq_getElem (by rw [HD.out.len]; exact hltn)⟩
      obtain ⟨b, o, rfl, c0, c1, c2⟩ := HD.out.at hd
      have k0 := hk.cell c0
      have k1 := hk.cell c1
      have k2 := hk.cell c2
      have f := decl_walk d (HN.out d (List.mem_of_getElem? hd)) (wr.alloc (.cells #[.string d.n, .int .i64 d.t, .int .i64 d.pos] 44))
      have HA : Hid (wr.heap[w.heap.size]? = some (.cells cur 9) ∧ cur.size = n ∧ (∀ (j : Nat) (x : Dc), j < i → ds[j]? = some x → cur[j]? = some (.string (dct x))) ∧ Kept w wr) := ⟨hb, hs, hf, hk⟩
      have HX : Hid (ds[i]? = some d) := hd
      clear hg hb hs hf hk hd c0 c1 c2
      obtain ⟨dn, dt, dp⟩ := d
      dsimp only at *
      obtain ⟨tx, htx⟩ : ∃ tx, tx = dct ⟨dn, dt, dp⟩ := ⟨_, rfl⟩
      have HT : Hid (tx = dct ⟨dn, dt, dp⟩) := htx
      rw [← htx] at f
      clear htx
      go_wp2_with (go_at_call 31; (with_reducible refine f.mono ?_); clear f; rintro e w1 ⟨rfl, hk1⟩
                   obtain ⟨hb, hs, hf, hk⟩ := HA.out
                   have kk : Kept wr w1 := ((Kept.refl wr).alloc _).trans hk1
                   have hb1 := kk.block hb
                   have y1 : w1.cell? ⟨w.heap.size, i, none⟩ = some cur[i] := by rw [cell_of_row _ _ _ _ _ _ hb1]; exact Array.getElem?_eq_getElem (by omega)
                   have y2 : w1.frozen? ⟨w.heap.size, i, none⟩ = false := frozen_of_row _ _ _ _ _ hb1
                   have HB1 : Hid (w1.heap[w.heap.size]? = some (.cells cur 9) ∧ Kept w w1) := ⟨hb1, hk.trans kk⟩
                   clear hk1 kk hb hf hk hb1)
      go_roundg g'
      case measure => omega
      case rel =>
        obtain ⟨hb, hs', hf, hk⟩ := HA.out
        refine ⟨i + 1, cur.setIfInBounds i (.string tx), by have := HG.out; omega, by go_num, heap_setCell_same _ _ _ _ _ _ HB1.out.1, by simpa using hs', fun j x hj hx => ?_, HB1.out.2.setCell (Nat.le_refl _) _⟩
        rw [Array.getElem?_setIfInBounds]
        by_cases e : i = j
        · subst e
          rw [HX.out] at hx
          injection hx with hx
          subst hx
          rw [if_pos rfl, if_pos (by omega), HT.out]
        · rw [if_neg e]; exact hf j x (by omega) hx
    | zero =>
      obtain rfl : i = n := by omega
      have hi2 : ¬ (i : Int) < (i : Nat) := by omega
      have HAg : Hid (Ag wr (some ⟨w.heap.size, 0, none⟩) i i (ds.map dct)) := ⟨by rw [List.length_map, HD.out.len], Nat.le_refl _, by unfold maxLen; omega, .inr ⟨w.heap.size, 0, rfl, fun j x hx => by
        rw [List.getElem?_map, Option.map_eq_some_iff] at hx
        obtain ⟨d, hd, rfl⟩ := hx
        rw [Nat.zero_add, cell_of_row _ _ _ _ _ _ hb]
        exact hf j d (by have := (List.getElem?_eq_some_iff.1 hd).1; rw [HD.out.len] at this; exact this) hd⟩⟩
      have f := joined_walk HAg.out (by omega) (by have := HLS.out; omega)
      have HK : Hid (Kept w wr) := hk
      clear hg hb hs hf hk HLS
      obtain ⟨tl, htl⟩ : ∃ tl, tl = lst (ds.map dct) := ⟨_, rfl⟩
      have HTL : Hid (tl = lst (ds.map dct)) := htl
      rw [← htl] at f
      clear htl
      go_wp2_with (go_at_call 36; (with_reducible refine f.mono ?_); clear f; rintro e w1 ⟨rfl, hk1⟩)
      go_ret
      exact ⟨by rw [← HTL.out]; rfl, HK.out.trans hk1⟩

theorem one_cellA (w : World) (v : Value) (t : TypeId) : ∀ (j : Nat) (u : Value), [v][j]? = some u → (w.alloc (.cells #[v] t)).cell? ((⟨w.heap.size, 0, none⟩ : Addr).add j) = some u := by
  intro j u hj
  rw [Addr.add_lit, Nat.zero_add, cell_of_row _ _ _ _ _ _ (alloc_at w (.cells #[v] t))]
  simpa using hj
theorem sc_app (l m : List ByteArray) : sc (l ++ m) = sc l ++ sc m := List.map_append ..
theorem below_own {w wx w1 : World} {v : Value} {n sz : Nat} {xs : List Value} {e : Nat} (hk : Kept w wx) (hown : wx.ownsRow w.heap.size e sz v n xs) {W : World} (hW : Kept wx W) (hg : W.grownBy w1 v.ownBlock) : Kept w w1 :=
  ⟨((hk.trans hW).out).grown hg (hk.trans hW).size (fun k h => (hown.lt k h).1)⟩
set_option maxRecDepth 100000 in
set_option maxHeartbeats 2000000 in
theorem rdecls_walk {w : World} {p : Option Addr} {n c : Nat} {ds : List Dc} (h : Dl w p n c ds) (ok : Dok ds) (h64 : ∀ d ∈ ds, I64 d.t) :
    Calls Tryd.prog 23 #[.slice p n c] w fun e w' => e = .returned (.string (lst (ds.map dct))) ∧ Kept w w' := by
  obtain ⟨i0, hi0, hz0, hz1, hz2⟩ := info_parts info9
  have hn4 : n ≤ 4 := by rw [← h.len]; exact ok.1
  have hc9 : c ≤ 9223372036854775807 := by have := h.cap; unfold maxLen at this; omega
  have HD : Hid (Dl w p n c ds) := h
  have HN : Hid (∀ x ∈ ds, x.n.size ≤ 6 ∧ I64 x.t) := fun x hx => ⟨ok.2 x hx, h64 x hx⟩
  have HLS : Hid ((lst (ds.map dct)).size ≤ 60) := lst_dct ok
  have hle := h.le
  have HO0 : Hid ((w.alloc (.cells #[] 9)).ownsRow w.heap.size 9 1 (.slice (some ⟨w.heap.size, 0, none⟩) 0 0) 0 (sc [])) := World.ownsRow_made w #[] 0 (Nat.le_refl _) (Nat.zero_le _) rfl
  clear h ok h64
  go_enter Tryd.func23, Tryd.ntmps23
  go_wp2
  go_loopg [3, 4] n (fun g' sv iv wx => ∃ (i : Nat) (q : Option Addr) (cc : Nat), i + g' = n ∧ sv = .slice q i cc ∧ iv = .int .i64 (i : Nat) ∧ wx.ownsRow w.heap.size 9 1 (.slice q i cc) i (sc ((ds.take i).map dct)) ∧ Kept w wx)
  case atStart => exact ⟨0, some ⟨w.heap.size, 0, none⟩, 0, by omega, rfl, rfl, HO0.out, (Kept.refl w).alloc _⟩
  case round =>
    obtain ⟨i, q, cc, hg, rfl, rfl, how, hk⟩ := hrel
    have hcc : cc ≤ 9223372036854775807 := by have := (rw_own (by decide) (by decide) how).2.1; unfold maxLen at this; omega
    have hicc := (rw_own (by decide) (by decide) how).1
    cases gk with
    | zero =>
      obtain rfl : i = n := by omega
      have hi2 : ¬ (i : Int) < (i : Nat) := by omega
      have HAg : Hid (Ag wr q i cc (ds.map dct)) := by
        have e : (ds.take i).map dct = ds.map dct := by rw [← HD.out.len, List.take_length]
        rw [e] at how
        exact (ay_own how).ag
      have f := list_walk HAg.out (by have := HLS.out; omega)
      have HK : Hid (Kept w wr) := hk
      clear hg how hk HLS
      obtain ⟨tl, htl⟩ : ∃ tl, tl = lst (ds.map dct) := ⟨_, rfl⟩
      have HTL : Hid (tl = lst (ds.map dct)) := htl
      rw [← htl] at f
      clear htl
      go_wp2_with (go_at_call 27; (with_reducible refine f.mono ?_); clear f; rintro e w1 ⟨rfl, rfl⟩)
      go_ret
      exact ⟨by rw [← HTL.out]; rfl, HK.out⟩
    | succ g' =>
      have hlt : (i : Int) < (n : Nat) := by omega
      have hltn : i < n := by omega
      have hi4 : i < 4 := by omega
      have HG : Hid (i + g' + 1 = n) := by show i + g' + 1 = n; omega
      obtain ⟨d, hd⟩ : ∃ d, ds[i]? = some d := ⟨_, List.getElem?_eq_getElem (by rw [HD.out.len]; exact hltn)⟩
      obtain ⟨b, o, rfl, c0, c1, c2⟩ := HD.out.at hd
      obtain ⟨hdn, hdt⟩ := HN.out d (List.mem_of_getElem? hd)
      have HT : Hid (sc ((ds.take (i + 1)).map dct) = sc ((ds.take i).map dct) ++ [.string (dct d)]) := by
        show _ = _
        rw [List.take_add_one, hd, List.map_append, sc_app]; rfl
      have HX : Hid (dct d = d.n ++ ⟨#[58, 32]⟩ ++ typ d.t) := rfl
      generalize dct d = tx at *
      obtain ⟨dn, dt, dp⟩ := d
      dsimp only at *
      have hts := typ_size dt
      have HOW : Hid (wr.ownsRow w.heap.size 9 1 (.slice q i cc) i (sc ((ds.take i).map dct))) := how
      have HK : Hid (Kept w wr) := hk
      have hU : Hid (∀ W, Kept wr W → Calls Tryd.prog 13 #[.int .i64 dt] W fun x w' => x = .returned (.string (typ dt)) ∧ Kept wr w') := fun W h => (rtype_walk dt hdt W).mono fun _ _ ⟨a1, a2⟩ => ⟨a1, h.trans a2⟩
      have HSA : Hid (∀ W, Kept wr W → W.cell? ⟨b, o + i * 3, none⟩ = some (.string dn) ∧ W.cell? ⟨b, o + i * 3 + 1, none⟩ = some (.int .i64 dt)) := fun W hW => ⟨hW.cell (hk.cell c0), hW.cell (hk.cell c1)⟩
      have HSB : Hid (∀ W, Kept w W → W.cell? ⟨b, o + i * 3, none⟩ = some (.string dn) ∧ W.cell? ⟨b, o + i * 3 + 1, none⟩ = some (.int .i64 dt)) := fun W hW => ⟨hW.cell c0, hW.cell c1⟩
      clear hg how hd c0 c1 c2 hdt
      have b1 : ¬ 9223372036854775807 < (dn : ByteArray).size + (⟨#[58, 32]⟩ : ByteArray).size := by simp only [lsz, List.length_cons, List.length_nil]; omega
      have c1 : ¬ 9223372036854775807 < dn.size + 2 := by omega
      have b2 : ¬ 9223372036854775807 < (dn ++ ⟨#[58, 32]⟩ : ByteArray).size + (typ dt : ByteArray).size := by simp only [ByteArray.size_append, lsz, List.length_cons, List.length_nil]; omega
      have c2 : ¬ 9223372036854775807 < dn.size + 2 + (typ dt).size := by omega
      generalize typ dt = ty at *
      generalize sc ((ds.take i).map dct) = xs at *
      clear hk
      go_wp2
      go_region_held3 (fun W => W.cell? ⟨b, o + i * 3, none⟩ = some (.string dn) ∧ W.cell? ⟨b, o + i * 3 + 1, none⟩ = some (.int .i64 dt)) (first | exact y4 | exact HSA.out _ (by (repeat (first | assumption | exact Kept.refl _ | apply Kept.drew | apply Kept.alloc)))) (first
        | (refine step_append_any (by rfl) _ _ 33 (by rfl) w.heap.size 9 i0 _ 1 16 Tryd.underlying33 hi0 hz0 hz1 hz2 (by rfl) (by decide) (.slice q i cc) i xs (by rfl) (own_kept HOW.out (hk2.alloc _)) ⟨w2.heap.size, 0, none⟩ 1 1 [.string (dn ++ ⟨#[58, 32]⟩ ++ ty)] (by rfl) (by rfl) (one_cellA w2 _ _) (one_str _) (.inr (by decide)) (by unfold maxLen; omega) (by omega) (HK.out.trans (hk2.alloc (.cells #[.string (dn ++ ⟨#[58, 32]⟩ ++ ty)] 9))).size _ rfl ?_
           intro g1 cap1 w1 o1 gr1 l1
           have kw1 : Kept w w1 := below_own HK.out HOW.out (hk2.alloc (.cells #[.string (dn ++ ⟨#[58, 32]⟩ ++ ty)] 9)) gr1
           have y4 := HSB.out w1 kw1
           have HKW : Hid (Kept w w1) := kw1
           have HO1 : Hid _ := o1
           clear o1 gr1 l1 kw1)
        | (go_at_call 13; (with_reducible refine (hU.out _ ?_).mono ?_); (repeat (first | assumption | exact Kept.refl _ | apply Kept.drew | apply Kept.alloc)); rintro e w2 ⟨rfl, hk2⟩))
      all_goals go_wp2
      all_goals go_roundg g'
      all_goals (first | (case measure => omega) | skip)
      all_goals exact ⟨i + 1, _, _, by have := HG.out; omega, rfl, by go_num, by rw [HT.out, HX.out]; exact HO1.out, HKW.out⟩

end Go.Proofs.YtgdafolidifdoaaDoor.Tp
