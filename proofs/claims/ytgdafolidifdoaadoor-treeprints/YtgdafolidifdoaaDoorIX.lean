/- The walk of the reference's Print. Conditions: names are short; few of each; strconv's table is laid. -/
import Derived.Test.YtgdafolidifdoaaDoorIX0
import Derived.Test.YtgdafolidifdoaaDoorIU
import Derived.Test.YtgdafolidifdoaaDoorIW
import Derived.Deep.CutRange
namespace Go.Proofs.YtgdafolidifdoaaDoor.Tp
open Go.ChangeShapes Go.WideShapes Go.ChangeAt Go.RowKit

def Tk (l : List Dc) : Prop := ∀ d ∈ l, I64 d.t
theorem dls_next (d : Nat) (word : ByteArray) (x : Dc) (l : List Dc) : dls d word (l ++ [x]) = dls d word l ++ (tb d ++ word ++ dct x ++ ⟨#[59, 10]⟩) := by
  rw [dls_snoc]
  apply bext
  simp [cat, ByteArray.data_append]
theorem dls_var (x : Dc) (l : List Dc) : dls 1 ⟨#[118, 97, 114, 32]⟩ (l ++ [x]) = dls 1 ⟨#[118, 97, 114, 32]⟩ l ++ (⟨#[9, 118, 97, 114, 32]⟩ ++ dct x ++ ⟨#[59, 10]⟩) := by
  rw [dls_next]
  apply bext
  simp [tb, ByteArray.data_append]
theorem dls_word (word : ByteArray) (x : Dc) (l : List Dc) : dls 0 word (l ++ [x]) = dls 0 word l ++ (word ++ dct x ++ ⟨#[59, 10]⟩) := by
  rw [dls_next]
  apply bext
  simp [tb, ByteArray.data_append]
theorem fnt_ref (f : Fc) (x : ByteArray) : x ++ fnt f = x ++ (⟨#[102, 110, 32]⟩ ++ f.n ++ ⟨#[40]⟩ ++ lst (f.ps.map dct) ++ ⟨#[41]⟩ ++ rtt f.ret ++ ⟨#[32, 123, 10]⟩) ++ dls 1 ⟨#[118, 97, 114, 32]⟩ f.vs ++ (pr 1 f.bo ++ ⟨#[125, 10]⟩) := by
  apply bext
  simp [fnt, ByteArray.data_append]
/-- The text of one declaration alone. -/
theorem one_decl {W : World} {b o n c : Nat} {ds : List Dc} (h : Dl W (some ⟨b, o, none⟩) n c ds) (ok : Dok ds) (tk : Tk ds) {i : Nat} {d : Dc} (hd : ds[i]? = some d) :
    Calls Tryd.prog 23 #[.slice (some ⟨b, o + i * 3, none⟩) 1 (c - i)] W fun e w' => e = .returned (.string (dct d)) ∧ Kept W w' :=
  rdecls_walk (h.one hd) ⟨by simp, fun x hx => by rw [List.mem_singleton.1 hx]; exact ok.2 d (List.mem_of_getElem? hd)⟩ (fun x hx => by rw [List.mem_singleton.1 hx]; exact tk d (List.mem_of_getElem? hd))
theorem dls_le {d : Nat} {word : ByteArray} (hd : d ≤ 10) (hw : word.size ≤ 10) {l : List Dc} (ok : Dok l) (i : Nat) : (dls d word (l.take i)).size ≤ 160 := by
  have := dls_size d word hd hw (l.take i) (fun x hx => ok.2 x (List.mem_of_mem_take hx))
  rw [List.length_take] at this
  have := ok.1
  omega

set_option maxRecDepth 100000 in
set_option maxHeartbeats 16000000 in
theorem rprint_walk {w : World} (hL : Lds w) {pg pf pn : Option Addr} {ng cg nf cf nn cn : Nat} {gs fs : List Dc} {fl : List Fc} (hg : Dl w pg ng cg gs) (hf : Dl w pf nf cf fs) (hl : Fl w pn nn cn fl) (og : Dok gs) (of : Dok fs) (tg : Tk gs) (tf : Tk fs) (ol : ∀ f ∈ fl, Fok f ∧ Tk f.ps ∧ Tk f.vs) (o4 : fl.length ≤ 4) :
    Calls Tryd.prog 8 #[.agg #[.slice pg ng cg, .slice pf nf cf, .slice pn nn cn]] w fun e w' => e = .returned (.string (prt gs fs fl)) ∧ Kept w w' := by
  have HK : Hid (Kept w (w.alloc (.cells #[.slice pg ng cg, .slice pf nf cf, .slice pn nn cn] 26))) := (Kept.refl w).alloc _
  have HX : Hid (∀ W, Kept (w.alloc (.cells #[.slice pg ng cg, .slice pf nf cf, .slice pn nn cn] 26)) W → W.cell? ⟨w.heap.size, 0, none⟩ = some (.slice pg ng cg) ∧ W.cell? ⟨w.heap.size, 1, none⟩ = some (.slice pf nf cf) ∧ W.cell? ⟨w.heap.size, 2, none⟩ = some (.slice pn nn cn)) := fun W hW => by
    have hb := hW.block (alloc_at w _)
    exact ⟨by rw [cell_of_row _ _ _ _ _ _ hb]; rfl, by rw [cell_of_row _ _ _ _ _ _ hb]; rfl, by rw [cell_of_row _ _ _ _ _ _ hb]; rfl⟩
  have HG : Hid (Dl w pg ng cg gs ∧ Dok gs ∧ Tk gs) := ⟨hg, og, tg⟩
  have HF : Hid (Dl w pf nf cf fs ∧ Dok fs ∧ Tk fs) := ⟨hf, of, tf⟩
  have HL : Hid (Fl w pn nn cn fl ∧ (∀ f ∈ fl, Fok f ∧ Tk f.ps ∧ Tk f.vs) ∧ Lds w) := ⟨hl, ol, hL⟩
  have hng : ng ≤ 4 := by rw [← hg.len]; exact og.1
  have hnf : nf ≤ 4 := by rw [← hf.len]; exact of.1
  have hnn : nn ≤ 4 := by rw [← hl.len]; exact o4
  have hcg : cg ≤ 9223372036854775807 := by have := hg.cap; unfold maxLen at this; omega
  have hcf : cf ≤ 9223372036854775807 := by have := hf.cap; unfold maxLen at this; omega
  have hcn : cn ≤ 9223372036854775807 := by have := hl.cap; unfold maxLen at this; omega
  have hlg := hg.le
  have hlf := hf.le
  have hln := hl.le
  have HSg : Hid (∀ i, (dls 0 ⟨#[103, 108, 111, 98, 97, 108, 32]⟩ (gs.take i)).size ≤ 160) := fun i => dls_le (by omega) (by simp only [lsz, List.length_cons, List.length_nil]; omega) og i
  have HSf : Hid (∀ i, (dls 0 ⟨#[102, 105, 101, 108, 100, 32]⟩ (fs.take i)).size ≤ 160) := fun i => dls_le (by omega) (by simp only [lsz, List.length_cons, List.length_nil]; omega) of i
  have HSn : Hid (∀ i, (fns (fl.take i)).size ≤ 2800000) := fun i => by
    have := fns_size (fl.take i) (fun f h => (ol f (List.mem_of_mem_take h)).1)
    rw [List.length_take] at this
    omega
  have HP : Hid (prt gs fs fl = dls 0 ⟨#[103, 108, 111, 98, 97, 108, 32]⟩ gs ++ dls 0 ⟨#[102, 105, 101, 108, 100, 32]⟩ fs ++ fns fl) := rfl
  clear hg hf hl og of tg tf ol o4 hL
  go_enter Tryd.func8, Tryd.ntmps8
  go_wp2

  go_loopg [3, 4] ng (fun g' sv iv wx => ∃ i : Nat, i + g' = ng ∧ sv = .string (dls 0 ⟨#[103, 108, 111, 98, 97, 108, 32]⟩ (gs.take i)) ∧ iv = .int .i64 (i : Nat) ∧ Kept (w.alloc (.cells #[.slice pg ng cg, .slice pf nf cf, .slice pn nn cn] 26)) wx)
  case atStart => exact ⟨0, by omega, rfl, rfl, Kept.refl _⟩
  case round =>
    rename World => wa
    obtain ⟨i, hi, rfl, rfl, hk⟩ := hrel
    obtain ⟨x0, x1, x2⟩ := HX.out wa hk
    cases gk with
    | succ g' =>
      have hlt : (i : Int) < (ng : Nat) := by omega
      have hltn : i < ng := by omega
      have hi4 : i < 4 := by omega
      have HGi : Hid (i + g' + 1 = ng) := by show i + g' + 1 = ng; omega
      have hD := HG.out.1.stay (HK.out.trans hk).ky
      obtain ⟨d, hd⟩ : ∃ d, gs[i]? = some d := ⟨_, List.getElem?_eq_getElem (by rw [hD.len]; exact hltn)⟩
      obtain ⟨rb, ro, rfl, _, _, _⟩ := hD.at hd
      have f := one_decl hD HG.out.2.1 HG.out.2.2 hd
      have hsl := one_slice rb ro ng cg i (by omega)
      have hds := dct_size (HG.out.2.1.2 d (List.mem_of_getElem? hd))
      have hps : (dls 0 ⟨#[103, 108, 111, 98, 97, 108, 32]⟩ (gs.take i)).size ≤ 400 := by have q1 := HSg.out i; omega
      have HT : Hid (dls 0 ⟨#[103, 108, 111, 98, 97, 108, 32]⟩ (gs.take (i + 1)) = dls 0 ⟨#[103, 108, 111, 98, 97, 108, 32]⟩ (gs.take i) ++ (⟨#[103, 108, 111, 98, 97, 108, 32]⟩ ++ dct d ++ ⟨#[59, 10]⟩)) := by
        show _ = _
        rw [List.take_add_one, hd, show (some d).toList = [d] from rfl, dls_word]
      have HKk : Hid (Kept _ wa) := hk
      clear hi hk hD hd x0 x1 x2
      obtain ⟨x0, x1, x2⟩ := HX.out wa HKk.out
      generalize dct d = td at *
      have b1 : ¬ 9223372036854775807 < (⟨#[103, 108, 111, 98, 97, 108, 32]⟩ : ByteArray).size + td.size := by simp only [lsz, List.length_cons, List.length_nil]; omega
      have b2 : ¬ 9223372036854775807 < (⟨#[103, 108, 111, 98, 97, 108, 32]⟩ ++ td : ByteArray).size + (⟨#[59, 10]⟩ : ByteArray).size := by simp only [ByteArray.size_append, lsz, List.length_cons, List.length_nil]; omega
      generalize hQ : dls 0 ⟨#[103, 108, 111, 98, 97, 108, 32]⟩ (gs.take i) = Q at *
      have b3 : ¬ 9223372036854775807 < Q.size + (⟨#[103, 108, 111, 98, 97, 108, 32]⟩ ++ td ++ ⟨#[59, 10]⟩ : ByteArray).size := by simp only [ByteArray.size_append, lsz, List.length_cons, List.length_nil]; omega
      clear hQ
      go_wp2_with (go_at_call 23; (with_reducible refine f.mono ?_); clear f; rintro e w1 ⟨rfl, k1⟩; have HK1 : Hid _ := k1; clear k1)
      go_roundg g'
      case measure => omega
      case rel => exact ⟨i + 1, by have := HGi.out; omega, by rw [HT.out], by go_num, HKk.out.trans HK1.out⟩
    | zero =>
      have e0 : i = ng := by omega
      have hi2 : ¬ (i : Int) < (ng : Nat) := by omega
      have e : gs.take i = gs := by rw [e0, ← HG.out.1.len, List.take_length]
      rw [e]
      have HKk : Hid (Kept _ wa) := hk
      clear hi hk e e0
      go_wp2

      go_loopg [3, 5] nf (fun g' sv iv wx => ∃ i : Nat, i + g' = nf ∧ sv = .string (dls 0 ⟨#[103, 108, 111, 98, 97, 108, 32]⟩ gs ++ dls 0 ⟨#[102, 105, 101, 108, 100, 32]⟩ (fs.take i)) ∧ iv = .int .i64 (i : Nat) ∧ Kept (w.alloc (.cells #[.slice pg ng cg, .slice pf nf cf, .slice pn nn cn] 26)) wx)
      case atStart => exact ⟨0, by omega, by rw [show dls 0 ⟨#[103, 108, 111, 98, 97, 108, 32]⟩ gs ++ dls 0 ⟨#[102, 105, 101, 108, 100, 32]⟩ (fs.take 0) = dls 0 ⟨#[103, 108, 111, 98, 97, 108, 32]⟩ gs from app_em _], rfl, HKk.out⟩
      case round =>
        rename World => wb
        obtain ⟨i, hi, rfl, rfl, hk⟩ := hrel
        obtain ⟨x0, x1, x2⟩ := HX.out wb hk
        cases gk with
        | succ g' =>
          have hlt : (i : Int) < (nf : Nat) := by omega
          have hltn : i < nf := by omega
          have hi4 : i < 4 := by omega
          have HGi : Hid (i + g' + 1 = nf) := by show i + g' + 1 = nf; omega
          have hD := HF.out.1.stay (HK.out.trans hk).ky
          obtain ⟨d, hd⟩ : ∃ d, fs[i]? = some d := ⟨_, List.getElem?_eq_getElem (by rw [hD.len]; exact hltn)⟩
          obtain ⟨rb, ro, rfl, _, _, _⟩ := hD.at hd
          have f := one_decl hD HF.out.2.1 HF.out.2.2 hd
          have hsl := one_slice rb ro nf cf i (by omega)
          have hds := dct_size (HF.out.2.1.2 d (List.mem_of_getElem? hd))
          have hps : (dls 0 ⟨#[103, 108, 111, 98, 97, 108, 32]⟩ gs ++ dls 0 ⟨#[102, 105, 101, 108, 100, 32]⟩ (fs.take i)).size ≤ 400 := by have q1 := HSf.out i; have q2 := HSg.out 4; rw [List.take_of_length_le HG.out.2.1.1] at q2; rw [ByteArray.size_append]; omega
          have HT : Hid (dls 0 ⟨#[103, 108, 111, 98, 97, 108, 32]⟩ gs ++ dls 0 ⟨#[102, 105, 101, 108, 100, 32]⟩ (fs.take (i + 1)) = dls 0 ⟨#[103, 108, 111, 98, 97, 108, 32]⟩ gs ++ dls 0 ⟨#[102, 105, 101, 108, 100, 32]⟩ (fs.take i) ++ (⟨#[102, 105, 101, 108, 100, 32]⟩ ++ dct d ++ ⟨#[59, 10]⟩)) := by
            show _ = _
            rw [List.take_add_one, hd, show (some d).toList = [d] from rfl, dls_word]
            simp only [ByteArray.append_assoc]
          have HKk : Hid (Kept _ wb) := hk
          clear hi hk hD hd x0 x1 x2
          obtain ⟨x0, x1, x2⟩ := HX.out wb HKk.out
          generalize dct d = td at *
          have b1 : ¬ 9223372036854775807 < (⟨#[102, 105, 101, 108, 100, 32]⟩ : ByteArray).size + td.size := by simp only [lsz, List.length_cons, List.length_nil]; omega
          have b2 : ¬ 9223372036854775807 < (⟨#[102, 105, 101, 108, 100, 32]⟩ ++ td : ByteArray).size + (⟨#[59, 10]⟩ : ByteArray).size := by simp only [ByteArray.size_append, lsz, List.length_cons, List.length_nil]; omega
          generalize hQ : dls 0 ⟨#[103, 108, 111, 98, 97, 108, 32]⟩ gs ++ dls 0 ⟨#[102, 105, 101, 108, 100, 32]⟩ (fs.take i) = Q at *
          have b3 : ¬ 9223372036854775807 < Q.size + (⟨#[102, 105, 101, 108, 100, 32]⟩ ++ td ++ ⟨#[59, 10]⟩ : ByteArray).size := by simp only [ByteArray.size_append, lsz, List.length_cons, List.length_nil]; omega
          clear hQ
          go_wp2_with (go_at_call 23; (with_reducible refine f.mono ?_); clear f; rintro e w1 ⟨rfl, k1⟩; have HK1 : Hid _ := k1; clear k1)
          go_roundg g'
          case measure => omega
          case rel => exact ⟨i + 1, by have := HGi.out; omega, by rw [HT.out], by go_num, HKk.out.trans HK1.out⟩
        | zero =>
          have e0 : i = nf := by omega
          have hi2 : ¬ (i : Int) < (nf : Nat) := by omega
          have e : fs.take i = fs := by rw [e0, ← HF.out.1.len, List.take_length]
          rw [e]
          have HKk : Hid (Kept _ wb) := hk
          clear hi hk e e0
          go_wp2

          have hA : (dls 0 ⟨#[103, 108, 111, 98, 97, 108, 32]⟩ gs ++ dls 0 ⟨#[102, 105, 101, 108, 100, 32]⟩ fs).size ≤ 400 := by
            have q1 := HSg.out 4
            have q2 := HSf.out 4
            rw [List.take_of_length_le HG.out.2.1.1] at q1
            rw [List.take_of_length_le HF.out.2.1.1] at q2
            rw [ByteArray.size_append]; omega
          generalize dls 0 ⟨#[103, 108, 111, 98, 97, 108, 32]⟩ gs ++ dls 0 ⟨#[102, 105, 101, 108, 100, 32]⟩ fs = A at *
          go_loopg [3, 6] nn (fun g' sv iv wx => ∃ i : Nat, i + g' = nn ∧ sv = .string (A ++ fns (fl.take i)) ∧ iv = .int .i64 (i : Nat) ∧ Kept (w.alloc (.cells #[.slice pg ng cg, .slice pf nf cf, .slice pn nn cn] 26)) wx)
          case atStart => exact ⟨0, by omega, by rw [show A ++ fns (fl.take 0) = A from app_em _], rfl, HKk.out⟩
          case round =>
            rename World => wc
            obtain ⟨i, hi, rfl, rfl, hk⟩ := hrel
            obtain ⟨x0, x1, x2⟩ := HX.out wc hk
            have HKc : Hid (Kept _ wc) := hk
            cases gk with
            | zero =>
              have e0 : i = nn := by omega
              have hi2 : ¬ (i : Int) < (nn : Nat) := by omega
              have e : fl.take i = fl := by rw [e0, ← HL.out.1.len, List.take_length]
              rw [e]
              clear hi hk e e0
              go_wp2
              go_ret
              exact ⟨by rw [HP.out]; rfl, HK.out.trans HKc.out⟩
            | succ g' =>
              have hlt : (i : Int) < (nn : Nat) := by omega
              have hltn : i < nn := by omega
              have hi4 : i < 4 := by omega
              have HGi : Hid (i + g' + 1 = nn) := by show i + g' + 1 = nn; omega
              have hFl := HL.out.1.stay (HK.out.trans hk).ky
              obtain ⟨f0, hf0⟩ : ∃ f, fl[i]? = some f := ⟨_, List.getElem?_eq_getElem (by rw [hFl.len]; exact hltn)⟩
              obtain ⟨rb, ro, pp, np, cp, pv, nv, cv, pb, nb, cb, hpn, c0, c1, c2, c3, c4, c5, d1, d2, d3⟩ := hFl.at hf0
              subst hpn
              obtain ⟨ok, tk1, tk2⟩ := HL.out.2.1 f0 (List.mem_of_getElem? hf0)
              have HT : Hid (A ++ fns (fl.take (i + 1)) = A ++ fns (fl.take i) ++ fnt f0) := by
                show _ = _
                rw [List.take_add_one, hf0, show (some f0).toList = [f0] from rfl, fns_snoc]
                simp only [ByteArray.append_assoc]
              have HFT : Hid (∀ x : ByteArray, x ++ fnt f0 = x ++ (⟨#[102, 110, 32]⟩ ++ f0.n ++ ⟨#[40]⟩ ++ lst (f0.ps.map dct) ++ ⟨#[41]⟩ ++ rtt f0.ret ++ ⟨#[32, 123, 10]⟩) ++ dls 1 ⟨#[118, 97, 114, 32]⟩ f0.vs ++ (pr 1 f0.bo ++ ⟨#[125, 10]⟩)) := fnt_ref f0
              have hQs : (A ++ fns (fl.take i)).size ≤ 2800400 := by have q1 := HSn.out i; rw [ByteArray.size_append]; omega
              have hnv : nv ≤ 4 := by rw [← d2.len]; exact ok.vs.1
              have hcv : cv ≤ 9223372036854775807 := by have := d2.cap; unfold maxLen at this; omega
              have hlv := d2.le
              have hnb : nb ≤ 5000 := by rw [d3.len]; have := f0.bo.len_sz; have := ok.sz; omega
              have hcb : cb ≤ 9223372036854775807 := by have := d3.cap; unfold maxLen at this; omega
              have hlp := lst_dct ok.ps
              have hrs := rtt_size f0.ret
              have hns := ok.n
              have hr4 := ok.ret
              obtain ⟨W2, hW2⟩ : ∃ W2, W2 = wc.alloc (.cells #[.string f0.n, .int .i64 f0.pos, .slice pp np cp, .int .i64 f0.ret, .slice pv nv cv, .slice pb nb cb] 48) := ⟨_, rfl⟩
              have kW2 : Kept wc W2 := by rw [hW2]; exact (Kept.refl wc).alloc _
              have HK2 : Hid (Kept wc W2) := kW2
              have hbW : W2.heap[wc.heap.size]? = some (.cells #[.string f0.n, .int .i64 f0.pos, .slice pp np cp, .int .i64 f0.ret, .slice pv nv cv, .slice pb nb cb] 48) := by rw [hW2]; exact alloc_at wc _
              have HY2 : Hid (∀ W, Kept W2 W → W.cell? ⟨wc.heap.size, 0, none⟩ = some (.string f0.n) ∧ W.cell? ⟨wc.heap.size, 2, none⟩ = some (.slice pp np cp)) := fun W h => ⟨by rw [cell_of_row _ _ _ _ _ _ (h.block hbW)]; rfl, by rw [cell_of_row _ _ _ _ _ _ (h.block hbW)]; rfl⟩
              have HY3 : Hid (∀ W, Kept W2 W → W.cell? ⟨wc.heap.size, 3, none⟩ = some (.int .i64 f0.ret)) := fun W h => by rw [cell_of_row _ _ _ _ _ _ (h.block hbW)]; rfl
              have HY4 : Hid (∀ W, Kept W2 W → W.cell? ⟨wc.heap.size, 4, none⟩ = some (.slice pv nv cv)) := fun W h => by rw [cell_of_row _ _ _ _ _ _ (h.block hbW)]; rfl
              have HY5 : Hid (∀ W, Kept W2 W → W.cell? ⟨wc.heap.size, 5, none⟩ = some (.slice pb nb cb)) := fun W h => by rw [cell_of_row _ _ _ _ _ _ (h.block hbW)]; rfl
              have HPs : Hid (∀ W, Kept W2 W → Calls Tryd.prog 23 #[.slice pp np cp] W fun e w' => e = .returned (.string (lst (f0.ps.map dct))) ∧ Kept W2 w') := fun W h => (rdecls_walk (d1.stay (kW2.trans h).ky) ok.ps tk1).mono fun _ _ ⟨a1, a2⟩ => ⟨a1, h.trans a2⟩
              have HVs : Hid (Dl W2 pv nv cv f0.vs ∧ Dok f0.vs ∧ Tk f0.vs) := ⟨d2.stay kW2.ky, ok.vs, tk2⟩
              have HSv : Hid (∀ i, (dls 1 ⟨#[118, 97, 114, 32]⟩ (f0.vs.take i)).size ≤ 160) := fun i => dls_le (by omega) (by simp only [lsz, List.length_cons, List.length_nil]; omega) ok.vs i
              have HBo : Hid (∀ W, Kept W2 W → Calls Tryd.prog 24 #[.slice pb nb cb, .int .i64 1] W fun e w' => e = .returned (.string (pr 1 f0.bo)) ∧ Kept W w') := fun W h => rstmts_walk f0.bo.sz f0.bo 1 (Nat.le_refl _) ok.bo (by have := ok.dp; omega) (by have := ok.sz; omega) W pb nb cb (HL.out.2.2.kept (HK.out.trans (hk.trans (kW2.trans h)))) (d3.stay (kW2.trans h).ky)
              have HBz : Hid ((pr 1 f0.bo).size ≤ 650000) := by have q1 := pr_size f0.bo 1 ok.bo (by have := ok.dp; omega); have := ok.sz; show _ ≤ _; omega
              have HRt : Hid (∀ W, Kept W2 W → Calls Tryd.prog 13 #[.int .i64 f0.ret] W fun e w' => e = .returned (.string (typ f0.ret)) ∧ Kept W2 w') := fun W h => (rtype_walk f0.ret ⟨by omega, by omega⟩ W).mono fun _ _ ⟨a1, a2⟩ => ⟨a1, h.trans a2⟩
              have hty := typ_size f0.ret
              have HRE : Hid (f0.ret ≠ 0 → rtt f0.ret = ⟨#[58, 32]⟩ ++ typ f0.ret) := fun h => by unfold rtt; rw [if_neg h]
              have HRZ : Hid (f0.ret = 0 → rtt f0.ret = ⟨#[]⟩) := fun h => by unfold rtt; rw [if_pos h]
              clear hi hk hFl hf0 ok tk1 tk2 d1 d2 d3 kW2 hbW hA
              generalize fnt f0 = tfn at *
              obtain ⟨fn, fp, ps, rt, vs, bo⟩ := f0
              dsimp only at *
              generalize hQ : A ++ fns (fl.take i) = Q at *
              generalize lst (ps.map dct) = tp at *
              by_cases hr0 : rt = 0
              · have hre := HRZ.out hr0
                subst hr0
                have HRF : Hid (rtt 0 = ⟨#[]⟩) := hre
                rw [hre] at hrs
                clear hre HRE HRZ HRt hty
                go_upto_region 17 with fail
                rw [← hW2]
                clear hW2

                have b1 : ¬ 9223372036854775807 < (⟨#[102, 110, 32]⟩ : ByteArray).size + (fn : ByteArray).size := by simp only [lsz, List.length_cons, List.length_nil]; omega
                have c1 : ¬ 9223372036854775807 < 3 + fn.size := by omega
                have b2 : ¬ 9223372036854775807 < (⟨#[102, 110, 32]⟩ ++ fn : ByteArray).size + (⟨#[40]⟩ : ByteArray).size := by simp only [ByteArray.size_append, lsz, List.length_cons, List.length_nil]; omega
                have c2 : ¬ 9223372036854775807 < 3 + fn.size + 1 := by omega
                have b3 : ¬ 9223372036854775807 < (⟨#[102, 110, 32]⟩ ++ fn ++ ⟨#[40]⟩ : ByteArray).size + (tp : ByteArray).size := by simp only [ByteArray.size_append, lsz, List.length_cons, List.length_nil]; omega
                have c3 : ¬ 9223372036854775807 < 3 + fn.size + 1 + tp.size := by omega
                have b4 : ¬ 9223372036854775807 < (⟨#[102, 110, 32]⟩ ++ fn ++ ⟨#[40]⟩ ++ tp : ByteArray).size + (⟨#[41]⟩ : ByteArray).size := by simp only [ByteArray.size_append, lsz, List.length_cons, List.length_nil]; omega
                have c4 : ¬ 9223372036854775807 < 3 + fn.size + 1 + tp.size + 1 := by omega
                have b5 : ¬ 9223372036854775807 < (⟨#[102, 110, 32]⟩ ++ fn ++ ⟨#[40]⟩ ++ tp ++ ⟨#[41]⟩ : ByteArray).size + (⟨#[]⟩ : ByteArray).size := by simp only [ByteArray.size_append, lsz, List.length_cons, List.length_nil]; omega
                have c5 : ¬ 9223372036854775807 < 3 + fn.size + 1 + tp.size + 1 + 0 := by omega
                have b6 : ¬ 9223372036854775807 < (⟨#[102, 110, 32]⟩ ++ fn ++ ⟨#[40]⟩ ++ tp ++ ⟨#[41]⟩ ++ ⟨#[]⟩ : ByteArray).size + (⟨#[32, 123, 10]⟩ : ByteArray).size := by simp only [ByteArray.size_append, lsz, List.length_cons, List.length_nil]; omega
                have c6 : ¬ 9223372036854775807 < 3 + fn.size + 1 + tp.size + 1 + 0 + 3 := by omega
                have b7 : ¬ 9223372036854775807 < Q.size + ((⟨#[102, 110, 32]⟩ ++ fn ++ ⟨#[40]⟩ ++ tp ++ ⟨#[41]⟩ ++ ⟨#[]⟩ ++ ⟨#[32, 123, 10]⟩) : ByteArray).size := by simp only [ByteArray.size_append, lsz, List.length_cons, List.length_nil]; omega
                have c7 : ¬ 9223372036854775807 < Q.size + (3 + fn.size + 1 + tp.size + 1 + 0 + 3) := by omega
                have HO1 : Hid ((Q ++ (⟨#[102, 110, 32]⟩ ++ fn ++ ⟨#[40]⟩ ++ tp ++ ⟨#[41]⟩ ++ ⟨#[]⟩ ++ ⟨#[32, 123, 10]⟩)).size ≤ 2900000) := by show _ ≤ _; simp only [ByteArray.size_append, lsz, List.length_cons, List.length_nil]; omega
                go_region_held3 (fun W => W.cell? ⟨wc.heap.size, 0, none⟩ = some (.string fn) ∧ W.cell? ⟨wc.heap.size, 2, none⟩ = some (.slice pp np cp)) (exact HY2.out _ (by (repeat (first | assumption | exact Kept.refl _ | apply Kept.drew | apply Kept.alloc | exact Kept.refl _)))) (first
                  | (go_at_call 23; (with_reducible refine (HPs.out _ ?_).mono ?_); (repeat (first | assumption | exact Kept.refl _ | apply Kept.drew | apply Kept.alloc | exact Kept.refl _)); rintro e1 w4 ⟨rfl, hk4⟩)
                  | fail)
                all_goals
                  have HK4 : Hid (Kept W2 w4) := hk4
                  clear hk4 b1 b2 b3 b4 b5 b6 b7 c1 c2 c3 c4 c5 c6 c7
                  generalize hO1 : Q ++ (⟨#[102, 110, 32]⟩ ++ fn ++ ⟨#[40]⟩ ++ tp ++ ⟨#[41]⟩ ++ ⟨#[]⟩ ++ ⟨#[32, 123, 10]⟩) = O1 at *
                  have HOE : Hid (Q ++ (⟨#[102, 110, 32]⟩ ++ fn ++ ⟨#[40]⟩ ++ tp ++ ⟨#[41]⟩ ++ ⟨#[]⟩ ++ ⟨#[32, 123, 10]⟩) = O1) := hO1
                  clear hO1
                  go_wp2
                  go_loopg [3, 9] nv (fun g2 sv iv wx => ∃ j : Nat, j + g2 = nv ∧ sv = .string (O1 ++ dls 1 ⟨#[118, 97, 114, 32]⟩ (vs.take j)) ∧ iv = .int .i64 (j : Nat) ∧ Kept W2 wx)
                  case atStart => exact ⟨0, by omega, by rw [show O1 ++ dls 1 ⟨#[118, 97, 114, 32]⟩ (vs.take 0) = O1 from app_em _], rfl, HK4.out⟩
                  case round =>
                    rename World => wd
                    obtain ⟨j, hj, rfl, rfl, hkd⟩ := hrel
                    have HKd : Hid (Kept W2 wd) := hkd
                    have x4 := HY4.out wd hkd
                    cases gk with
                    | succ g2 =>
                      have hlt2 : (j : Int) < (nv : Nat) := by omega
                      have hj4 : j < 4 := by omega
                      have HGj : Hid (j + g2 + 1 = nv) := by show j + g2 + 1 = nv; omega
                      have hD := HVs.out.1.stay hkd.ky
                      obtain ⟨d, hd⟩ : ∃ d, vs[j]? = some d := ⟨_, List.getElem?_eq_getElem (by rw [hD.len]; omega)⟩
                      obtain ⟨rb2, ro2, hpv, _, _, _⟩ := hD.at hd
                      subst hpv
                      have f := one_decl hD HVs.out.2.1 HVs.out.2.2 hd
                      have hsl := one_slice rb2 ro2 nv cv j (by omega)
                      have hds := dct_size (HVs.out.2.1.2 d (List.mem_of_getElem? hd))
                      have hps : (O1 ++ dls 1 ⟨#[118, 97, 114, 32]⟩ (vs.take j)).size ≤ 2901000 := by have q1 := HSv.out j; have q2 := HO1.out; rw [ByteArray.size_append]; omega
                      have HT2 : Hid (O1 ++ dls 1 ⟨#[118, 97, 114, 32]⟩ (vs.take (j + 1)) = O1 ++ dls 1 ⟨#[118, 97, 114, 32]⟩ (vs.take j) ++ (⟨#[9, 118, 97, 114, 32]⟩ ++ dct d ++ ⟨#[59, 10]⟩)) := by
                        show _ = _
                        rw [List.take_add_one, hd, show (some d).toList = [d] from rfl, dls_var]
                        simp only [ByteArray.append_assoc]
                      clear hj hkd hD hd
                      generalize dct d = td at *
                      have b1 : ¬ 9223372036854775807 < (⟨#[9, 118, 97, 114, 32]⟩ : ByteArray).size + td.size := by simp only [lsz, List.length_cons, List.length_nil]; omega
                      have b2 : ¬ 9223372036854775807 < (⟨#[9, 118, 97, 114, 32]⟩ ++ td : ByteArray).size + (⟨#[59, 10]⟩ : ByteArray).size := by simp only [ByteArray.size_append, lsz, List.length_cons, List.length_nil]; omega
                      generalize hQ2 : O1 ++ dls 1 ⟨#[118, 97, 114, 32]⟩ (vs.take j) = Q2 at *
                      have b3 : ¬ 9223372036854775807 < Q2.size + (⟨#[9, 118, 97, 114, 32]⟩ ++ td ++ ⟨#[59, 10]⟩ : ByteArray).size := by simp only [ByteArray.size_append, lsz, List.length_cons, List.length_nil]; omega
                      clear hQ2
                      go_wp2_with (go_at_call 23; (with_reducible refine f.mono ?_); clear f; rintro e w5 ⟨rfl, k5⟩; have HK5 : Hid _ := k5; clear k5)
                      go_roundg g2
                      case measure => omega
                      case rel => exact ⟨j + 1, by have := HGj.out; omega, by rw [HT2.out], by go_num, HKd.out.trans HK5.out⟩
                    | zero =>
                      have e0 : j = nv := by omega
                      have hi2 : ¬ (j : Int) < (nv : Nat) := by omega
                      have e : vs.take j = vs := by rw [e0, ← HVs.out.1.len, List.take_length]
                      have hps : (O1 ++ dls 1 ⟨#[118, 97, 114, 32]⟩ vs).size ≤ 2901000 := by have q1 := HSv.out j; rw [e] at q1; have q2 := HO1.out; rw [ByteArray.size_append]; omega
                      rw [e]
                      have x5 := HY5.out wd hkd
                      have f := HBo.out wd hkd
                      have hbz := HBz.out
                      clear hj hkd e e0
                      generalize hQ2 : O1 ++ dls 1 ⟨#[118, 97, 114, 32]⟩ vs = Q2 at *
                      generalize hB2 : pr 1 bo = tb2 at *
                      have b1 : ¬ 9223372036854775807 < tb2.size + (⟨#[125, 10]⟩ : ByteArray).size := by simp only [lsz, List.length_cons, List.length_nil]; omega
                      have b2 : ¬ 9223372036854775807 < Q2.size + (tb2 ++ ⟨#[125, 10]⟩ : ByteArray).size := by simp only [ByteArray.size_append, lsz, List.length_cons, List.length_nil]; omega
                      have HQ2 : Hid (O1 ++ dls 1 ⟨#[118, 97, 114, 32]⟩ vs = Q2) := hQ2
                      have HB2 : Hid (pr 1 bo = tb2) := hB2
                      clear hQ2 hB2
                      go_wp2_with (go_at_call 24; (with_reducible refine f.mono ?_); clear f; rintro e w5 ⟨rfl, k5⟩; have HK5 : Hid _ := k5; clear k5)
                      go_roundg g'
                      case measure => omega
                      case rel => exact ⟨i + 1, by have := HGi.out; omega, by rw [HT.out, HFT.out, ← HB2.out, ← HQ2.out, ← HOE.out]; rw [HRF.out], by go_num, HKc.out.trans (HK2.out.trans (HKd.out.trans HK5.out))⟩

              · have hre := HRE.out hr0
                have HRF : Hid (rtt rt = ⟨#[58, 32]⟩ ++ typ rt) := hre
                rw [hre] at hrs
                have x3 := HY3.out W2 (Kept.refl _)
                have ft := HRt.out W2 (Kept.refl _)
                have bt : ¬ 9223372036854775807 < (⟨#[58, 32]⟩ : ByteArray).size + (typ rt).size := by simp only [lsz, List.length_cons, List.length_nil]; omega
                clear hre HRE HRZ HRt hty
                rw [hW2] at ft
                generalize typ rt = ty at *
                go_upto_region 17 with (go_at_call 13; (with_reducible refine ft.mono ?_); clear ft; rintro e w3 ⟨rfl, k3⟩; have HK3 : Hid (Kept W2 w3) := (by rw [hW2]; exact k3); clear k3 hW2)
                generalize hco : ⟨#[58, 32]⟩ ++ ty = tr at *
                have HCO : Hid (⟨#[58, 32]⟩ ++ ty = tr) := hco
                clear hco bt x3

                have b1 : ¬ 9223372036854775807 < (⟨#[102, 110, 32]⟩ : ByteArray).size + (fn : ByteArray).size := by simp only [lsz, List.length_cons, List.length_nil]; omega
                have c1 : ¬ 9223372036854775807 < 3 + fn.size := by omega
                have b2 : ¬ 9223372036854775807 < (⟨#[102, 110, 32]⟩ ++ fn : ByteArray).size + (⟨#[40]⟩ : ByteArray).size := by simp only [ByteArray.size_append, lsz, List.length_cons, List.length_nil]; omega
                have c2 : ¬ 9223372036854775807 < 3 + fn.size + 1 := by omega
                have b3 : ¬ 9223372036854775807 < (⟨#[102, 110, 32]⟩ ++ fn ++ ⟨#[40]⟩ : ByteArray).size + (tp : ByteArray).size := by simp only [ByteArray.size_append, lsz, List.length_cons, List.length_nil]; omega
                have c3 : ¬ 9223372036854775807 < 3 + fn.size + 1 + tp.size := by omega
                have b4 : ¬ 9223372036854775807 < (⟨#[102, 110, 32]⟩ ++ fn ++ ⟨#[40]⟩ ++ tp : ByteArray).size + (⟨#[41]⟩ : ByteArray).size := by simp only [ByteArray.size_append, lsz, List.length_cons, List.length_nil]; omega
                have c4 : ¬ 9223372036854775807 < 3 + fn.size + 1 + tp.size + 1 := by omega
                have b5 : ¬ 9223372036854775807 < (⟨#[102, 110, 32]⟩ ++ fn ++ ⟨#[40]⟩ ++ tp ++ ⟨#[41]⟩ : ByteArray).size + (tr : ByteArray).size := by simp only [ByteArray.size_append, lsz, List.length_cons, List.length_nil]; omega
                have c5 : ¬ 9223372036854775807 < 3 + fn.size + 1 + tp.size + 1 + tr.size := by omega
                have b6 : ¬ 9223372036854775807 < (⟨#[102, 110, 32]⟩ ++ fn ++ ⟨#[40]⟩ ++ tp ++ ⟨#[41]⟩ ++ tr : ByteArray).size + (⟨#[32, 123, 10]⟩ : ByteArray).size := by simp only [ByteArray.size_append, lsz, List.length_cons, List.length_nil]; omega
                have c6 : ¬ 9223372036854775807 < 3 + fn.size + 1 + tp.size + 1 + tr.size + 3 := by omega
                have b7 : ¬ 9223372036854775807 < Q.size + ((⟨#[102, 110, 32]⟩ ++ fn ++ ⟨#[40]⟩ ++ tp ++ ⟨#[41]⟩ ++ tr ++ ⟨#[32, 123, 10]⟩) : ByteArray).size := by simp only [ByteArray.size_append, lsz, List.length_cons, List.length_nil]; omega
                have c7 : ¬ 9223372036854775807 < Q.size + (3 + fn.size + 1 + tp.size + 1 + tr.size + 3) := by omega
                have HO1 : Hid ((Q ++ (⟨#[102, 110, 32]⟩ ++ fn ++ ⟨#[40]⟩ ++ tp ++ ⟨#[41]⟩ ++ tr ++ ⟨#[32, 123, 10]⟩)).size ≤ 2900000) := by show _ ≤ _; simp only [ByteArray.size_append, lsz, List.length_cons, List.length_nil]; omega
                go_region_held3 (fun W => W.cell? ⟨wc.heap.size, 0, none⟩ = some (.string fn) ∧ W.cell? ⟨wc.heap.size, 2, none⟩ = some (.slice pp np cp)) (exact HY2.out _ (by (repeat (first | assumption | exact Kept.refl _ | apply Kept.drew | apply Kept.alloc | exact HK3.out)))) (first
                  | (go_at_call 23; (with_reducible refine (HPs.out _ ?_).mono ?_); (repeat (first | assumption | exact Kept.refl _ | apply Kept.drew | apply Kept.alloc | exact HK3.out)); rintro e1 w4 ⟨rfl, hk4⟩)
                  | fail)
                all_goals
                  have HK4 : Hid (Kept W2 w4) := hk4
                  clear hk4 b1 b2 b3 b4 b5 b6 b7 c1 c2 c3 c4 c5 c6 c7
                  generalize hO1 : Q ++ (⟨#[102, 110, 32]⟩ ++ fn ++ ⟨#[40]⟩ ++ tp ++ ⟨#[41]⟩ ++ tr ++ ⟨#[32, 123, 10]⟩) = O1 at *
                  have HOE : Hid (Q ++ (⟨#[102, 110, 32]⟩ ++ fn ++ ⟨#[40]⟩ ++ tp ++ ⟨#[41]⟩ ++ tr ++ ⟨#[32, 123, 10]⟩) = O1) := hO1
                  clear hO1
                  go_wp2
                  go_loopg [3, 9] nv (fun g2 sv iv wx => ∃ j : Nat, j + g2 = nv ∧ sv = .string (O1 ++ dls 1 ⟨#[118, 97, 114, 32]⟩ (vs.take j)) ∧ iv = .int .i64 (j : Nat) ∧ Kept W2 wx)
                  case atStart => exact ⟨0, by omega, by rw [show O1 ++ dls 1 ⟨#[118, 97, 114, 32]⟩ (vs.take 0) = O1 from app_em _], rfl, HK4.out⟩
                  case round =>
                    rename World => wd
                    obtain ⟨j, hj, rfl, rfl, hkd⟩ := hrel
                    have HKd : Hid (Kept W2 wd) := hkd
                    have x4 := HY4.out wd hkd
                    cases gk with
                    | succ g2 =>
                      have hlt2 : (j : Int) < (nv : Nat) := by omega
                      have hj4 : j < 4 := by omega
                      have HGj : Hid (j + g2 + 1 = nv) := by show j + g2 + 1 = nv; omega
                      have hD := HVs.out.1.stay hkd.ky
                      obtain ⟨d, hd⟩ : ∃ d, vs[j]? = some d := ⟨_, List.getElem?_eq_getElem (by rw [hD.len]; omega)⟩
                      obtain ⟨rb2, ro2, hpv, _, _, _⟩ := hD.at hd
                      subst hpv
                      have f := one_decl hD HVs.out.2.1 HVs.out.2.2 hd
                      have hsl := one_slice rb2 ro2 nv cv j (by omega)
                      have hds := dct_size (HVs.out.2.1.2 d (List.mem_of_getElem? hd))
                      have hps : (O1 ++ dls 1 ⟨#[118, 97, 114, 32]⟩ (vs.take j)).size ≤ 2901000 := by have q1 := HSv.out j; have q2 := HO1.out; rw [ByteArray.size_append]; omega
                      have HT2 : Hid (O1 ++ dls 1 ⟨#[118, 97, 114, 32]⟩ (vs.take (j + 1)) = O1 ++ dls 1 ⟨#[118, 97, 114, 32]⟩ (vs.take j) ++ (⟨#[9, 118, 97, 114, 32]⟩ ++ dct d ++ ⟨#[59, 10]⟩)) := by
                        show _ = _
                        rw [List.take_add_one, hd, show (some d).toList = [d] from rfl, dls_var]
                        simp only [ByteArray.append_assoc]
                      clear hj hkd hD hd
                      generalize dct d = td at *
                      have b1 : ¬ 9223372036854775807 < (⟨#[9, 118, 97, 114, 32]⟩ : ByteArray).size + td.size := by simp only [lsz, List.length_cons, List.length_nil]; omega
                      have b2 : ¬ 9223372036854775807 < (⟨#[9, 118, 97, 114, 32]⟩ ++ td : ByteArray).size + (⟨#[59, 10]⟩ : ByteArray).size := by simp only [ByteArray.size_append, lsz, List.length_cons, List.length_nil]; omega
                      generalize hQ2 : O1 ++ dls 1 ⟨#[118, 97, 114, 32]⟩ (vs.take j) = Q2 at *
                      have b3 : ¬ 9223372036854775807 < Q2.size + (⟨#[9, 118, 97, 114, 32]⟩ ++ td ++ ⟨#[59, 10]⟩ : ByteArray).size := by simp only [ByteArray.size_append, lsz, List.length_cons, List.length_nil]; omega
                      clear hQ2
                      go_wp2_with (go_at_call 23; (with_reducible refine f.mono ?_); clear f; rintro e w5 ⟨rfl, k5⟩; have HK5 : Hid _ := k5; clear k5)
                      go_roundg g2
                      case measure => omega
                      case rel => exact ⟨j + 1, by have := HGj.out; omega, by rw [HT2.out], by go_num, HKd.out.trans HK5.out⟩
                    | zero =>
                      have e0 : j = nv := by omega
                      have hi2 : ¬ (j : Int) < (nv : Nat) := by omega
                      have e : vs.take j = vs := by rw [e0, ← HVs.out.1.len, List.take_length]
                      have hps : (O1 ++ dls 1 ⟨#[118, 97, 114, 32]⟩ vs).size ≤ 2901000 := by have q1 := HSv.out j; rw [e] at q1; have q2 := HO1.out; rw [ByteArray.size_append]; omega
                      rw [e]
                      have x5 := HY5.out wd hkd
                      have f := HBo.out wd hkd
                      have hbz := HBz.out
                      clear hj hkd e e0
                      generalize hQ2 : O1 ++ dls 1 ⟨#[118, 97, 114, 32]⟩ vs = Q2 at *
                      generalize hB2 : pr 1 bo = tb2 at *
                      have b1 : ¬ 9223372036854775807 < tb2.size + (⟨#[125, 10]⟩ : ByteArray).size := by simp only [lsz, List.length_cons, List.length_nil]; omega
                      have b2 : ¬ 9223372036854775807 < Q2.size + (tb2 ++ ⟨#[125, 10]⟩ : ByteArray).size := by simp only [ByteArray.size_append, lsz, List.length_cons, List.length_nil]; omega
                      have HQ2 : Hid (O1 ++ dls 1 ⟨#[118, 97, 114, 32]⟩ vs = Q2) := hQ2
                      have HB2 : Hid (pr 1 bo = tb2) := hB2
                      clear hQ2 hB2
                      go_wp2_with (go_at_call 24; (with_reducible refine f.mono ?_); clear f; rintro e w5 ⟨rfl, k5⟩; have HK5 : Hid _ := k5; clear k5)
                      go_roundg g'
                      case measure => omega
                      case rel => exact ⟨i + 1, by have := HGi.out; omega, by rw [HT.out, HFT.out, ← HB2.out, ← HQ2.out, ← HOE.out]; rw [HRF.out], by go_num, HKc.out.trans (HK2.out.trans (HKd.out.trans HK5.out))⟩

end Go.Proofs.YtgdafolidifdoaaDoor.Tp
