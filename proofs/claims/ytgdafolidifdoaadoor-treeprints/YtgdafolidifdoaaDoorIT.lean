/- The walk of the printer's function. Conditions: names are short; few of each; what is written is within a bound. -/
import Derived.Test.YtgdafolidifdoaaDoorIS
namespace Go.Proofs.YtgdafolidifdoaaDoor.Tp
open Go.ChangeShapes Go.WideShapes Go.ChangeAt Go.RowKit

theorem fnt_parts (f : Fc) (x : ByteArray) : x ++ fnt f = x ++ (tb 0 ++ cat [⟨#[102, 110, 32]⟩, f.n, ⟨#[40]⟩, lst (f.ps.map dct), ⟨#[41]⟩, rtt f.ret, ⟨#[32, 123]⟩] ++ ⟨#[10]⟩) ++ dls 1 ⟨#[118, 97, 114, 32]⟩ f.vs ++ pr 1 f.bo ++ (tb 0 ++ cat [⟨#[125]⟩] ++ ⟨#[10]⟩) := by
  apply bext
  simp [fnt, tb, cat, ByteArray.data_append]

set_option maxRecDepth 100000 in
set_option maxHeartbeats 8000000 in
theorem function_walk {w0 w : World} {b : Nat} {acc : ByteArray} (h : Bl w0 b acc w) (f : Fc) (ok : Fok f) {pp : Option Addr} {np cp : Nat} {pv : Option Addr} {nv cv : Nat} {pb : Option Addr} {nb cb : Nat} (hp : Dl w pp np cp f.ps) (hv : Dl w pv nv cv f.vs) (hb : Sl w pb nb cb f.bo) (ha : acc.size ≤ 300000000000) :
    Calls Tryd.prog 21 #[.pointer (some ⟨b, 0, none⟩), .agg #[.string f.n, .int .i64 f.pos, .slice pp np cp, .int .i64 f.ret, .slice pv nv cv, .slice pb nb cb]] w fun e w' => e = .returned (.tuple #[]) ∧ Bl w0 b (acc ++ fnt f) w' ∧ Ky w w' := by
  have HT : Hid (∀ x : ByteArray, x ++ fnt f = x ++ (tb 0 ++ cat [⟨#[102, 110, 32]⟩, f.n, ⟨#[40]⟩, lst (f.ps.map dct), ⟨#[41]⟩, rtt f.ret, ⟨#[32, 123]⟩] ++ ⟨#[10]⟩) ++ dls 1 ⟨#[118, 97, 114, 32]⟩ f.vs ++ pr 1 f.bo ++ (tb 0 ++ cat [⟨#[125]⟩] ++ ⟨#[10]⟩)) := fnt_parts f
  have hln := lst_dct ok.ps
  have hrs := rtt_size f.ret
  have hns := ok.n
  have hds := dls_size 1 ⟨#[118, 97, 114, 32]⟩ (by omega) (by simp only [lsz, List.length_cons, List.length_nil]; omega) f.vs ok.vs.2
  have hps := pr_size f.bo 1 ok.bo (by have := ok.dp; omega)
  have hsz := ok.sz
  have hvl := ok.vs.1
  have HP : Hid (∀ V W, Kept w V → Kept V W → Calls Tryd.prog 32 #[.slice pp np cp] W fun e w' => e = .returned (.string (lst (f.ps.map dct))) ∧ Kept V w') := fun V W hV hW => (params_walk (hp.stay (hV.trans hW).ky) ok.ps).mono fun _ _ ⟨a1, a2⟩ => ⟨a1, hW.trans a2⟩
  have HR : Hid (∀ W, Calls Tryd.prog 33 #[.int .i64 f.ret] W fun e w' => e = .returned (.string (rtt f.ret)) ∧ w' = W) := fun W => ret_walk f.ret ok.ret W
  have HV : Hid (∀ W a, Ky w W → Bl w0 b a W → a.size ≤ 400000000000 → Calls Tryd.prog 20 #[.pointer (some ⟨b, 0, none⟩), .int .i64 1, .string ⟨#[118, 97, 114, 32]⟩, .slice pv nv cv] W fun e w' => e = .returned (.tuple #[]) ∧ Bl w0 b (a ++ dls 1 ⟨#[118, 97, 114, 32]⟩ f.vs) w' ∧ Ky W w') := fun W a hW hB hA => decls_walk hB 1 (by omega) _ (by simp only [lsz, List.length_cons, List.length_nil]; omega) (hv.stay hW) ok.vs hA
  have HK : Hid (∀ W a, Ky w W → Bl w0 b a W → a.size + 130 * f.bo.sz ≤ 400000000000 → Calls Tryd.prog 34 #[.pointer (some ⟨b, 0, none⟩), .int .i64 1, .slice pb nb cb] W fun e w' => e = .returned (.tuple #[]) ∧ Bl w0 b (a ++ pr 1 f.bo) w' ∧ Ky W w') := fun W a hW hB hA => block_walk f.bo.sz f.bo 1 (Nat.le_refl _) ok.bo (by have := ok.dp; omega) (by omega) W a pb nb cb hB (hb.stay hW) hA
  have HL : Hid (∀ (W : World) (g : Nat) (a : ByteArray), W.heap.size = g → Bl w0 b a W → a.size ≤ 500000000000 → Calls Tryd.prog 30 #[.pointer (some ⟨b, 0, none⟩), .int .i64 0, .slice (some ⟨g, 0, none⟩) 1 1] (W.alloc (.cells #[.string ⟨#[125]⟩] 9)) fun e w' => e = .returned (.tuple #[]) ∧ Bl w0 b (a ++ (tb 0 ++ cat [⟨#[125]⟩] ++ ⟨#[10]⟩)) w' ∧ Ky W w') := fun W g a hg hB hA => line_gn hg hB 0 (by omega) [⟨#[125]⟩] #[.string ⟨#[125]⟩] rfl 1 rfl (by decide) hA (by rw [cat1]; simp only [lsz, List.length_cons, List.length_nil]; omega)
  clear ok hp hv hb
  generalize fnt f = tf at *
  obtain ⟨fn, fp, ps, rt, vs, bo⟩ := f
  dsimp only at *
  generalize lst (ps.map dct) = tp at *
  generalize rtt rt = tr at *
  generalize dls 1 ⟨#[118, 97, 114, 32]⟩ vs = tv at *
  generalize pr 1 bo = tk at *
  have HL7 : Hid (∀ (W : World) (g : Nat), W.heap.size = g → Bl w0 b acc W → Calls Tryd.prog 30 #[.pointer (some ⟨b, 0, none⟩), .int .i64 0, .slice (some ⟨g, 0, none⟩) 7 7] (W.alloc (.cells #[.string ⟨#[102, 110, 32]⟩, .string fn, .string ⟨#[40]⟩, .string tp, .string ⟨#[41]⟩, .string tr, .string ⟨#[32, 123]⟩] 9)) fun e w' => e = .returned (.tuple #[]) ∧ Bl w0 b (acc ++ (tb 0 ++ cat [⟨#[102, 110, 32]⟩, fn, ⟨#[40]⟩, tp, ⟨#[41]⟩, tr, ⟨#[32, 123]⟩] ++ ⟨#[10]⟩)) w' ∧ Ky W w') := fun W g hg hB => line_gn hg hB 0 (by omega) [⟨#[102, 110, 32]⟩, fn, ⟨#[40]⟩, tp, ⟨#[41]⟩, tr, ⟨#[32, 123]⟩] #[.string ⟨#[102, 110, 32]⟩, .string fn, .string ⟨#[40]⟩, .string tp, .string ⟨#[41]⟩, .string tr, .string ⟨#[32, 123]⟩] rfl 7 rfl (by decide) (by omega) (by simp only [cat, ByteArray.size_append, lsz, List.length_cons, List.length_nil]; omega)
  have s1 : (acc ++ (tb 0 ++ cat [⟨#[102, 110, 32]⟩, fn, ⟨#[40]⟩, tp, ⟨#[41]⟩, tr, ⟨#[32, 123]⟩] ++ ⟨#[10]⟩)).size ≤ 300000000100 := by simp only [cat, tb_size, ByteArray.size_append, lsz, List.length_cons, List.length_nil]; omega
  have HS1 : Hid ((acc ++ (tb 0 ++ cat [⟨#[102, 110, 32]⟩, fn, ⟨#[40]⟩, tp, ⟨#[41]⟩, tr, ⟨#[32, 123]⟩] ++ ⟨#[10]⟩)).size ≤ 400000000000) := by show _ ≤ _; omega
  have HS2 : Hid ((acc ++ (tb 0 ++ cat [⟨#[102, 110, 32]⟩, fn, ⟨#[40]⟩, tp, ⟨#[41]⟩, tr, ⟨#[32, 123]⟩] ++ ⟨#[10]⟩) ++ tv).size + 130 * bo.sz ≤ 400000000000) := by show _ ≤ _; rw [ByteArray.size_append]; omega
  have HS3 : Hid ((acc ++ (tb 0 ++ cat [⟨#[102, 110, 32]⟩, fn, ⟨#[40]⟩, tp, ⟨#[41]⟩, tr, ⟨#[32, 123]⟩] ++ ⟨#[10]⟩) ++ tv ++ tk).size ≤ 500000000000) := by show _ ≤ _; rw [ByteArray.size_append, ByteArray.size_append]; omega
  have HB : Hid (Bl w0 b acc (w.alloc (.cells #[.string fn, .int .i64 fp, .slice pp np cp, .int .i64 rt, .slice pv nv cv, .slice pb nb cb] 48))) := h.kept ((Kept.refl w).alloc _)
  have HKB : Hid (Kept w (w.alloc (.cells #[.string fn, .int .i64 fp, .slice pp np cp, .int .i64 rt, .slice pv nv cv, .slice pb nb cb] 48))) := (Kept.refl w).alloc _
  have HSY : Hid (∀ W, Ky (w.alloc (.cells #[.string fn, .int .i64 fp, .slice pp np cp, .int .i64 rt, .slice pv nv cv, .slice pb nb cb] 48)) W → W.cell? ⟨w.heap.size, 0, none⟩ = some (.string fn) ∧ W.cell? ⟨w.heap.size, 2, none⟩ = some (.slice pp np cp) ∧ W.cell? ⟨w.heap.size, 3, none⟩ = some (.int .i64 rt) ∧ W.cell? ⟨w.heap.size, 4, none⟩ = some (.slice pv nv cv) ∧ W.cell? ⟨w.heap.size, 5, none⟩ = some (.slice pb nb cb)) := fun W hW => by
    have hb := hW.out _ _ _ _ (alloc_at w _) (by decide) (by decide)
    exact ⟨by rw [cell_of_row _ w.heap.size 0 _ _ _ hb]; rfl, by rw [cell_of_row _ w.heap.size 2 _ _ _ hb]; rfl, by rw [cell_of_row _ w.heap.size 3 _ _ _ hb]; rfl, by rw [cell_of_row _ w.heap.size 4 _ _ _ hb]; rfl, by rw [cell_of_row _ w.heap.size 5 _ _ _ hb]; rfl⟩
  have HPX : Hid (∀ W, Kept (w.alloc (.cells #[.string fn, .int .i64 fp, .slice pp np cp, .int .i64 rt, .slice pv nv cv, .slice pb nb cb] 48)) W → Calls Tryd.prog 32 #[.slice pp np cp] W fun e w' => e = .returned (.string tp) ∧ Kept (w.alloc (.cells #[.string fn, .int .i64 fp, .slice pp np cp, .int .i64 rt, .slice pv nv cv, .slice pb nb cb] 48)) w') := fun W hW => HP.out _ W HKB.out hW
  clear h s1 hln hrs hns hds hps hsz hvl
  go_enter Tryd.func21, Tryd.ntmps21
  go_wp2
  go_region_held3 (fun W => W.cell? ⟨w.heap.size, 0, none⟩ = some (.string fn) ∧ W.cell? ⟨w.heap.size, 2, none⟩ = some (.slice pp np cp) ∧ W.cell? ⟨w.heap.size, 3, none⟩ = some (.int .i64 rt) ∧ W.cell? ⟨w.heap.size, 4, none⟩ = some (.slice pv nv cv) ∧ W.cell? ⟨w.heap.size, 5, none⟩ = some (.slice pb nb cb)) (first | exact HSY.out _ (by assumption) | exact HSY.out _ (Kept.ky (by (repeat (first | assumption | exact Kept.refl _ | apply Kept.drew | apply Kept.alloc))))) (first
    | (go_at_call 32; (with_reducible refine (HPX.out _ ?_).mono ?_); (repeat (first | assumption | exact Kept.refl _ | apply Kept.drew | apply Kept.alloc)); rintro e w1 ⟨rfl, hk1⟩)
    | (go_at_call 33; (with_reducible refine (HR.out _).mono ?_); rintro e w1 ⟨rfl, rfl⟩)
    | (go_at_call 30; (with_reducible refine (HL7.out w1 _ rfl (HB.out.kept hk1)).mono ?_); rintro e w2 ⟨rfl, b2, k2⟩; have ky2 : Ky (w.alloc (.cells #[.string fn, .int .i64 fp, .slice pp np cp, .int .i64 rt, .slice pv nv cv, .slice pb nb cb] 48)) w2 := hk1.ky.trans k2; have HB2 : Hid _ := b2; clear b2 k2))
  all_goals
    obtain ⟨x0, x2, x3, x4, x5⟩ := HSY.out w2 ky2
    have KY2 : Hid (Ky (w.alloc (.cells #[.string fn, .int .i64 fp, .slice pp np cp, .int .i64 rt, .slice pv nv cv, .slice pb nb cb] 48)) w2) := ky2
    clear ky2
    go_wp2_with (first
      | (go_at_call 20; (with_reducible refine (HV.out w2 _ (HKB.out.ky.trans KY2.out) HB2.out HS1.out).mono ?_); rintro e w3 ⟨rfl, b3, k3⟩; have HB3 : Hid _ := b3; have KY3 : Hid (Ky (w.alloc (.cells #[.string fn, .int .i64 fp, .slice pp np cp, .int .i64 rt, .slice pv nv cv, .slice pb nb cb] 48)) w3) := KY2.out.trans k3; obtain ⟨y0, y2, y3, y4, y5⟩ := HSY.out w3 KY3.out; clear b3 k3)
      | (go_at_call 34; (with_reducible refine (HK.out w3 _ (HKB.out.ky.trans KY3.out) HB3.out HS2.out).mono ?_); rintro e w4 ⟨rfl, b4, k4⟩; have HB4 : Hid _ := b4; have KY4 : Hid (Ky (w.alloc (.cells #[.string fn, .int .i64 fp, .slice pp np cp, .int .i64 rt, .slice pv nv cv, .slice pb nb cb] 48)) w4) := KY3.out.trans k4; clear b4 k4)
      | (go_at_call 30; (with_reducible refine (HL.out w4 _ _ rfl HB4.out HS3.out).mono ?_); rintro e w5 ⟨rfl, b5, k5⟩; have HB5 : Hid _ := b5; have KY5 : Hid (Ky (w.alloc (.cells #[.string fn, .int .i64 fp, .slice pp np cp, .int .i64 rt, .slice pv nv cv, .slice pb nb cb] 48)) w5) := KY4.out.trans k5; clear b5 k5))
    go_end0
    exact ⟨rfl, by rw [HT.out]; exact HB5.out, HKB.out.ky.trans KY5.out⟩
end Go.Proofs.YtgdafolidifdoaaDoor.Tp
