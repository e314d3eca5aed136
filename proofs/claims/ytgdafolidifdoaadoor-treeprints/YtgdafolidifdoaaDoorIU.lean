/- The walk of Print. Conditions: names are short; few of each. -/
import Derived.Test.YtgdafolidifdoaaDoorIT
namespace Go.Proofs.YtgdafolidifdoaaDoor.Tp
open Go.ChangeShapes Go.WideShapes Go.ChangeAt Go.RowKit Go.Shelf

theorem fns_snoc (f : Fc) : ∀ l : List Fc, fns (l ++ [f]) = fns l ++ fnt f
  | [] => by
    show fnt f ++ ⟨#[]⟩ = ⟨#[]⟩ ++ fnt f
    rw [show ∀ x : ByteArray, x ++ (⟨#[]⟩ : ByteArray) = x from app_em, show ∀ x : ByteArray, (⟨#[]⟩ : ByteArray) ++ x = x from em_app]
  | g :: r => by rw [List.cons_append, fns, fns, fns_snoc f r, ByteArray.append_assoc]

set_option maxRecDepth 100000 in
set_option maxHeartbeats 4000000 in
theorem print_some {w : World} {pg pf pn : Option Addr} {ng cg nf cf nn cn : Nat} {gs fs : List Dc} {fl : List Fc} (hg : Dl w pg ng cg gs) (hf : Dl w pf nf cf fs) (hl : Fl w pn nn cn fl) (og : Dok gs) (of : Dok fs) (ol : ∀ f ∈ fl, Fok f) (o4 : fl.length ≤ 4) (hne : (prt gs fs fl).size ≠ 0) :
    Calls Tryd.prog 7 #[.agg #[.slice pg ng cg, .slice pf nf cf, .slice pn nn cn]] w fun e w' => e = .returned (.string (prt gs fs fl)) ∧ Kept w w' := by
  have hn4 : nn ≤ 4 := by rw [← hl.len]; exact o4
  have hc9 : cn ≤ 9223372036854775807 := by have := hl.cap; unfold maxLen at this; omega
  have hle := hl.le
  have s1 := dls_size 0 ⟨#[103, 108, 111, 98, 97, 108, 32]⟩ (by omega) (by simp only [lsz, List.length_cons, List.length_nil]; omega) gs og.2
  have s2 := dls_size 0 ⟨#[102, 105, 101, 108, 100, 32]⟩ (by omega) (by simp only [lsz, List.length_cons, List.length_nil]; omega) fs of.2
  have s3 := og.1
  have s4 := of.1
  have HS : Hid (∀ i, (dls 0 ⟨#[103, 108, 111, 98, 97, 108, 32]⟩ gs ++ dls 0 ⟨#[102, 105, 101, 108, 100, 32]⟩ fs ++ fns (fl.take i)).size ≤ 300000000000) := fun i => by
    have := fns_size (fl.take i) (fun f h => ol f (List.mem_of_mem_take h))
    rw [List.length_take] at this
    rw [ByteArray.size_append, ByteArray.size_append]
    omega
  have HN : Hid ((prt gs fs fl).size ≠ 0) := hne
  have HP : Hid (prt gs fs fl = dls 0 ⟨#[103, 108, 111, 98, 97, 108, 32]⟩ gs ++ dls 0 ⟨#[102, 105, 101, 108, 100, 32]⟩ fs ++ fns fl) := rfl
  have HG : Hid (∀ W b w0, Ky w W → Bl w0 b ⟨#[]⟩ W → Calls Tryd.prog 20 #[.pointer (some ⟨b, 0, none⟩), .int .i64 0, .string ⟨#[103, 108, 111, 98, 97, 108, 32]⟩, .slice pg ng cg] W fun e w' => e = .returned (.tuple #[]) ∧ Bl w0 b (⟨#[]⟩ ++ dls 0 ⟨#[103, 108, 111, 98, 97, 108, 32]⟩ gs) w' ∧ Ky W w') := fun W b w0 hW hB => decls_walk hB 0 (by omega) _ (by simp only [lsz, List.length_cons, List.length_nil]; omega) (hg.stay hW) og (by simp only [lsz, List.length_nil]; omega)
  have HF : Hid (∀ W b w0, Ky w W → Bl w0 b (⟨#[]⟩ ++ dls 0 ⟨#[103, 108, 111, 98, 97, 108, 32]⟩ gs) W → Calls Tryd.prog 20 #[.pointer (some ⟨b, 0, none⟩), .int .i64 0, .string ⟨#[102, 105, 101, 108, 100, 32]⟩, .slice pf nf cf] W fun e w' => e = .returned (.tuple #[]) ∧ Bl w0 b (dls 0 ⟨#[103, 108, 111, 98, 97, 108, 32]⟩ gs ++ dls 0 ⟨#[102, 105, 101, 108, 100, 32]⟩ fs) w' ∧ Ky W w') := fun W b w0 hW hB => by
    rw [show ⟨#[]⟩ ++ dls 0 ⟨#[103, 108, 111, 98, 97, 108, 32]⟩ gs = dls 0 ⟨#[103, 108, 111, 98, 97, 108, 32]⟩ gs from em_app _] at hB
    exact decls_walk hB 0 (by omega) _ (by simp only [lsz, List.length_cons, List.length_nil]; omega) (hf.stay hW) of (by omega)
  have HL : Hid (Fl w pn nn cn fl) := hl
  have HO : Hid (∀ f ∈ fl, Fok f) := ol
  have HK : Hid (Kept w (w.alloc (.cells #[.slice pg ng cg, .slice pf nf cf, .slice pn nn cn] 26))) := (Kept.refl w).alloc _
  have hB0 := Bl.start (w.alloc (.cells #[.slice pg ng cg, .slice pf nf cf, .slice pn nn cn] 26))
  rw [size_alloc] at hB0
  have HB0 : Hid (Bl (w.alloc (.cells #[.slice pg ng cg, .slice pf nf cf, .slice pn nn cn] 26)) (w.heap.size + 1) ⟨#[]⟩ ((w.alloc (.cells #[.slice pg ng cg, .slice pf nf cf, .slice pn nn cn] 26)).alloc (.cells #[.pointer none, .slice none 0 0] 54))) := hB0
  have HK0 : Hid (Ky (w.alloc (.cells #[.slice pg ng cg, .slice pf nf cf, .slice pn nn cn] 26)) ((w.alloc (.cells #[.slice pg ng cg, .slice pf nf cf, .slice pn nn cn] 26)).alloc (.cells #[.pointer none, .slice none 0 0] 54))) := ((Kept.refl _).alloc _).ky
  have HSY : Hid (∀ W, Ky (w.alloc (.cells #[.slice pg ng cg, .slice pf nf cf, .slice pn nn cn] 26)) W → W.cell? ⟨w.heap.size, 0, none⟩ = some (.slice pg ng cg) ∧ W.cell? ⟨w.heap.size, 1, none⟩ = some (.slice pf nf cf) ∧ W.cell? ⟨w.heap.size, 2, none⟩ = some (.slice pn nn cn)) := fun W hW => by
    have hb := hW.out _ _ _ _ (alloc_at w _) (by decide) (by decide)
    exact ⟨by rw [cell_of_row _ w.heap.size 0 _ _ _ hb]; rfl, by rw [cell_of_row _ w.heap.size 1 _ _ _ hb]; rfl, by rw [cell_of_row _ w.heap.size 2 _ _ _ hb]; rfl⟩
  clear hg hf hl og of ol o4 hne s1 s2 s3 s4 hB0
  generalize dls 0 ⟨#[103, 108, 111, 98, 97, 108, 32]⟩ gs = t1 at *
  generalize dls 0 ⟨#[102, 105, 101, 108, 100, 32]⟩ fs = t2 at *
  generalize prt gs fs fl = tt at *
  go_enter Tryd.func7, Tryd.ntmps7
  go_wp2_with (first
    | (go_at_call 20; (with_reducible refine (HG.out _ _ _ (HK.out.ky.trans HK0.out) HB0.out).mono ?_); rintro e w1 ⟨rfl, b1, k1⟩; have HB1 : Hid _ := b1; have KY1 : Hid (Ky (w.alloc (.cells #[.slice pg ng cg, .slice pf nf cf, .slice pn nn cn] 26)) w1) := HK0.out.trans k1; obtain ⟨x0, x1, x2⟩ := HSY.out w1 KY1.out; clear b1 k1)
    | (go_at_call 20; (with_reducible refine (HF.out _ _ _ (HK.out.ky.trans KY1.out) HB1.out).mono ?_); rintro e w2 ⟨rfl, b2, k2⟩; have HB2 : Hid _ := b2; have KY2 : Hid (Ky (w.alloc (.cells #[.slice pg ng cg, .slice pf nf cf, .slice pn nn cn] 26)) w2) := KY1.out.trans k2; obtain ⟨y0, y1, y2⟩ := HSY.out w2 KY2.out; clear b2 k2)
    | fail)
  clear x0 x1 x2 y0 y1 y2
  go_loopg [15] nn (fun g' iv wx => ∃ i : Nat, i + g' = nn ∧ iv = .int .i64 (i : Nat) ∧ Bl (w.alloc (.cells #[.slice pg ng cg, .slice pf nf cf, .slice pn nn cn] 26)) (w.heap.size + 1) (t1 ++ t2 ++ fns (fl.take i)) wx ∧ Ky (w.alloc (.cells #[.slice pg ng cg, .slice pf nf cf, .slice pn nn cn] 26)) wx)
  case atStart => exact ⟨0, by omega, rfl, by rw [show t1 ++ t2 ++ fns (fl.take 0) = t1 ++ t2 from app_em _]; exact HB2.out, KY2.out⟩
  case round =>
    obtain ⟨i, hi, rfl, hb, hk⟩ := hrel
    cases gk with
    | zero =>
      obtain rfl : i = nn := by omega
      have hi2 : ¬ (i : Int) < (i : Nat) := by omega
      have e : fl.take i = fl := by rw [← HL.out.len, List.take_length]
      have hE := hb
      rw [e, ← HP.out] at hE
      have f := hE.string HN.out
      clear hi hb hk hE e
      go_wp2_with (go_at_call 22; (with_reducible refine f.mono ?_); clear f; rintro e w3 ⟨rfl, k3⟩)
      go_ret
      exact ⟨rfl, HK.out.trans k3⟩
    | succ g' =>
      have hlt : (i : Int) < (nn : Nat) := by omega
      have hltn : i < nn := by omega
      have hi4 : i < 4 := by omega
      have HGi : Hid (i + g' + 1 = nn) := by show i + g' + 1 = nn; omega
      obtain ⟨f, hf⟩ : ∃ f, fl[i]? = some f := ⟨_, List.getElem?_eq_getElem (by rw [HL.out.len]; exact hltn)⟩
      obtain ⟨rb, ro, pp, np, cp, pv, nv, cv, pb, nb, cb, rfl, c0, c1, c2, c3, c4, c5, d1, d2, d3⟩ := (HL.out.stay (HK.out.ky.trans hk)).at hf
      have ka : Kept wr (wr.alloc (.cells #[.string f.n, .int .i64 f.pos, .slice pp np cp, .int .i64 f.ret, .slice pv nv cv, .slice pb nb cb] 48)) := (Kept.refl wr).alloc _
      have q := function_walk (hb.kept ka) f (HO.out f (List.mem_of_getElem? hf)) (d1.stay ka.ky) (d2.stay ka.ky) (d3.stay ka.ky) (HS.out i)
      have HT : Hid (t1 ++ t2 ++ fns (fl.take (i + 1)) = t1 ++ t2 ++ fns (fl.take i) ++ fnt f) := by
        show _ = _
        rw [List.take_add_one, hf, show (some f).toList = [f] from rfl, fns_snoc]
        simp only [ByteArray.append_assoc]
      have HKi : Hid (Ky _ (wr.alloc (.cells #[.string f.n, .int .i64 f.pos, .slice pp np cp, .int .i64 f.ret, .slice pv nv cv, .slice pb nb cb] 48))) := hk.trans ka.ky
      clear hi hb hk hf d1 d2 d3 ka
      generalize fnt f = tf at *
      obtain ⟨fn, fp, ps, rt, vs, bo⟩ := f
      dsimp only at *
      go_wp2_with (go_at_call 21; (with_reducible refine q.mono ?_); clear q; rintro e w3 ⟨rfl, b3, k3⟩; have HB3 : Hid _ := b3; have HK3 : Hid _ := k3; clear b3 k3)
      go_roundg g'
      case measure => omega
      case rel => exact ⟨i + 1, by have := HGi.out; omega, by go_num, by rw [HT.out]; exact HB3.out, HKi.out.trans HK3.out⟩
end Go.Proofs.YtgdafolidifdoaaDoor.Tp
