/- The walk of block. Conditions: names are short; blocks are few; what is written is within a bound. -/
import Derived.Test.YtgdafolidifdoaaDoorISa
namespace Go.Proofs.YtgdafolidifdoaaDoor.Tp
open Go.ChangeShapes Go.WideShapes Go.ChangeAt Go.RowKit

theorem line_gn {w0 W : World} {b g : Nat} {a : ByteArray} (hg : W.heap.size = g) (h : Bl w0 b a W) (d : Nat) (hd : d ≤ 10) (l : List ByteArray) (cs : Array Value) (hcs : cs.toList = sc l) (n : Nat) (hn : l.length = n) (hn9 : n ≤ 9) (ha : a.size ≤ 500000000000) (hc : (cat l).size ≤ 1000000) :
    Calls Tryd.prog 30 #[.pointer (some ⟨b, 0, none⟩), .int .i64 (d : Nat), .slice (some ⟨g, 0, none⟩) n n] (W.alloc (.cells cs 9)) fun e w' => e = .returned (.tuple #[]) ∧ Bl w0 b (a ++ (tb d ++ cat l ++ ⟨#[10]⟩)) w' ∧ Ky W w' := by
  subst hg
  exact line_new h d hd l cs hcs n hn hn9 ha hc
/-- What is asked of block. -/
def Bk (b : Nat) (w0 : World) (d : Nat) (s : Sts) : Prop :=
  ∀ (W : World) (acc : ByteArray) (p : Option Addr) (n c : Nat), Bl w0 b acc W → Sl W p n c s → acc.size + 130 * s.sz ≤ 400000000000 →
    Calls Tryd.prog 34 #[.pointer (some ⟨b, 0, none⟩), .int .i64 (d : Nat), .slice p n c] W fun e w' => e = .returned (.tuple #[]) ∧ Bl w0 b (acc ++ pr d s) w' ∧ Ky W w'
theorem cat1 (x : ByteArray) : (cat [x]).size = x.size := by
  simp only [cat, ByteArray.size_append, lsz, List.length_nil]; omega
theorem cat2 (x y : ByteArray) : (cat [x, y]).size = x.size + y.size := by
  simp only [cat, ByteArray.size_append, lsz, List.length_nil]; omega

set_option maxRecDepth 100000 in
set_option maxHeartbeats 8000000 in
theorem block_walk {w0 : World} {b : Nat} : ∀ (m : Nat) (s : Sts) (d : Nat), s.sz ≤ m → s.Ok → d + s.dp ≤ 9 → s.sz ≤ 100000 → Bk b w0 d s
  | m, s, d, hm, ok, hd, hz => by
    intro w acc p n c h hS ha
    have hn : n ≤ 100000 := by rw [hS.len]; have := s.len_sz; omega
    have hc9 : c ≤ 9223372036854775807 := by have := hS.cap; unfold maxLen at this; omega
    obtain ⟨cs, hSc, hRw⟩ := hS.out
    have HR : Hid (Rw w p n cs) := hRw
    have HLn : Hid (n = s.len) := hS.len
    have HB : Hid (Bl w0 b acc w) := h
    have HSc : Hid (Sc w s cs) := hSc
    have HOk : Hid (s.Ok) := ok
    have HM : Hid (s.sz ≤ m) := hm
    have hle := hS.le
    have IH : Hid (∀ (t : Sts) (d' : Nat), t.sz < m → t.Ok → d' + t.dp ≤ 9 → t.sz ≤ 100000 → Bk b w0 d' t) := by
      cases m with
      | zero => exact fun t d' ht => absurd ht (Nat.not_lt_zero _)
      | succ m' => exact fun t d' ht h1 h2 h3 => block_walk m' t d' (Nat.lt_succ_iff.1 ht) h1 h2 h3
    clear h hS hSc hRw ok hm
    go_enter Tryd.func34, Tryd.ntmps34
    go_wp2
    go_loopg [10] n (fun g' iv wx => ∃ (i : Nat) (r : Sts) (pre : ByteArray), i + g' = n ∧ r.len = g' ∧ iv = .int .i64 (i : Nat) ∧ pr d s = pre ++ pr d r ∧ pre.size + 130 * r.sz ≤ 130 * s.sz ∧ r.Ok ∧ d + r.dp ≤ 9 ∧ r.sz ≤ s.sz ∧ Sc wx r (cs.drop (i * 13)) ∧ Bl w0 b (acc ++ pre) wx ∧ Ky w wx)
    case atStart => exact ⟨0, s, ⟨#[]⟩, by omega, HLn.out.symm, rfl, (em_app _).symm, by simp only [lsz, List.length_nil]; omega, HOk.out, hd, Nat.le_refl _, HSc.out, by rw [show acc ++ (⟨#[]⟩ : ByteArray) = acc from app_em acc]; exact HB.out, Ky.refl w⟩
    case round =>
      obtain ⟨i, r, pre, hg, hrl, rfl, hpr, hps, hok, hrd, hrz, hsc, hb, hk⟩ := hrel
      cases r using Sts.cut with
      | nil =>
        have hrl' : 0 = gk := hrl
        obtain rfl : i = n := by omega
        have hi2 : ¬ (i : Int) < (i : Nat) := by omega
        have HE : Hid (Bl w0 b (acc ++ pr d s) wr) := by
          rw [hpr]
          rw [show pre ++ pr d .nil = pre from app_em pre]
          exact hb
        have HK : Hid (Ky w wr) := hk
        clear hg hrl hrl' hpr hps hok hrd hrz hsc hb hk
        go_wp2
        go_end0
        exact ⟨rfl, HE.out, HK.out⟩
      | one k pos to fd fr e bo el r =>
        cases gk with
        | zero => exact absurd hrl (Nat.succ_ne_zero _)
        | succ g' =>
        have hlt : (i : Int) < (n : Nat) := by omega
        have hltn : i < n := by omega
        obtain ⟨rb, ro, rfl, hf⟩ := (HR.out.stay hk).at (by omega)
        obtain ⟨pa, na, ca, pb, nb, cb, pe, ne, ce, hcell, hAy, hbo, hel, hscr⟩ := hsc.step hf

        have k0 : wr.cell? ⟨rb, ro + i * 13, none⟩ = some (.int .i64 k) := hcell 0 _ rfl
        have k1 : wr.cell? ⟨rb, ro + i * 13 + 1, none⟩ = some (.int .i64 pos) := hcell 1 _ rfl
        have k2 : wr.cell? ⟨rb, ro + i * 13 + 2, none⟩ = some (.string to) := hcell 2 _ rfl
        have k3 : wr.cell? ⟨rb, ro + i * 13 + 3, none⟩ = some (.string fd) := hcell 3 _ rfl
        have k4 : wr.cell? ⟨rb, ro + i * 13 + 4, none⟩ = some (.string fr) := hcell 4 _ rfl
        have k5 : wr.cell? ⟨rb, ro + i * 13 + 5, none⟩ = some (.int .i64 e.k) := hcell 5 _ rfl
        have k6 : wr.cell? ⟨rb, ro + i * 13 + 6, none⟩ = some (.string e.a) := hcell 6 _ rfl
        have k7 : wr.cell? ⟨rb, ro + i * 13 + 7, none⟩ = some (.string e.b) := hcell 7 _ rfl
        have k8 : wr.cell? ⟨rb, ro + i * 13 + 8, none⟩ = some (.int .i64 e.op) := hcell 8 _ rfl
        have k9 : wr.cell? ⟨rb, ro + i * 13 + 9, none⟩ = some (.int .i64 e.n) := hcell 9 _ rfl
        have k10 : wr.cell? ⟨rb, ro + i * 13 + 10, none⟩ = some (.slice pa na ca) := hcell 10 _ rfl
        have k11 : wr.cell? ⟨rb, ro + i * 13 + 11, none⟩ = some (.slice pb nb cb) := hcell 11 _ rfl
        have k12 : wr.cell? ⟨rb, ro + i * 13 + 12, none⟩ = some (.slice pe ne ce) := hcell 12 _ rfl
        rw [Sts.ok_one] at hok
        obtain ⟨o1, o2, o3, o4, o5, o6, o7⟩ := hok
        rw [Sts.dp_one] at hrd
        rw [Sts.sz_one] at hps hrz
        have hlb := hbo.len
        have hle2 := hel.len
        have hcb : cb ≤ 9223372036854775807 := by have := hbo.cap; unfold maxLen at this; omega
        have hce : ce ≤ 9223372036854775807 := by have := hel.cap; unfold maxLen at this; omega
        have hsb := pr_size bo (d + 1) o5 (by omega)
        have hse := pr_size el (d + 1) o6 (by omega)
        have hss := sml_size (k := k) o1 o2 o3 o4
        have htb := tb_size d
        have e1d : ((d + 1 : Nat) : Int) = (d : Int) + 1 := by omega
        have IHb : Hid (∀ (W : World) (a : ByteArray) (p : Option Addr) (n c : Nat), Bl w0 b a W → Sl W p n c bo → a.size + 130 * bo.sz ≤ 400000000000 → Calls Tryd.prog 34 #[.pointer (some ⟨b, 0, none⟩), .int .i64 ((d : Int) + 1), .slice p n c] W fun e w' => e = .returned (.tuple #[]) ∧ Bl w0 b (a ++ pr (d + 1) bo) w' ∧ Ky W w') := fun W a p n c q1 q2 q3 => by
          have q := IH.out bo (d + 1) (by have := HM.out; omega) o5 (by omega) (by omega) W a p n c q1 q2 q3
          rwa [e1d] at q
        have IHe : Hid (∀ (W : World) (a : ByteArray) (p : Option Addr) (n c : Nat), Bl w0 b a W → Sl W p n c el → a.size + 130 * el.sz ≤ 400000000000 → Calls Tryd.prog 34 #[.pointer (some ⟨b, 0, none⟩), .int .i64 ((d : Int) + 1), .slice p n c] W fun e w' => e = .returned (.tuple #[]) ∧ Bl w0 b (a ++ pr (d + 1) el) w' ∧ Ky W w') := fun W a p n c q1 q2 q3 => by
          have q := IH.out el (d + 1) (by have := HM.out; omega) o6 (by omega) (by omega) W a p n c q1 q2 q3
          rwa [e1d] at q
        have HA0 : Hid (Bl w0 b (acc ++ pre) wr) := hb
        have hsz0 : (acc ++ pre).size + 130 * (bo.sz + el.sz + r.sz + 1) ≤ 400000000000 := by rw [ByteArray.size_append]; omega
        have HREL : Hid (∀ W, Bl w0 b (acc ++ pre ++ pr d (.one k pos to fd fr e bo el .nil)) W → Ky wr W → ∃ (r' : Sts) (pre' : ByteArray), i + 1 + g' = n ∧ r'.len = g' ∧ pr d s = pre' ++ pr d r' ∧ pre'.size + 130 * r'.sz ≤ 130 * s.sz ∧ r'.Ok ∧ d + r'.dp ≤ 9 ∧ r'.sz ≤ s.sz ∧ Sc W r' (cs.drop ((i + 1) * 13)) ∧ Bl w0 b (acc ++ pre') W ∧ Ky w W) := fun W hB hK => by
          have h1 := pr_size (.one k pos to fd fr e bo el .nil) d ⟨o1, o2, o3, o4, o5, o6, trivial⟩ (by rw [Sts.dp_one, Sts.dp_nil]; omega)
          rw [Sts.sz_one, Sts.sz_nil] at h1
          exact ⟨r, pre ++ pr d (.one k pos to fd fr e bo el .nil), by omega, Nat.succ.inj hrl, by rw [hpr, pr_one, ByteArray.append_assoc], by rw [ByteArray.size_append]; omega, o7, by omega, by omega, Sc.stay hK _ _ hscr, by rw [← ByteArray.append_assoc]; exact hB, hk.trans hK⟩
        have HAy : Hid (Ay wr pa na ca e.args) := hAy
        have HSb : Hid (Sl wr pb nb cb bo) := hbo
        have HSe : Hid (Sl wr pe ne ce el) := hel
        have HSM : Hid (∀ (W : World), Ky wr W → Calls Tryd.prog 40 #[.agg #[.int .i64 k, .int .i64 pos, .string to, .string fd, .string fr, .int .i64 e.k, .string e.a, .string e.b, .int .i64 e.op, .int .i64 e.n, .slice pa na ca, .slice pb nb cb, .slice pe ne ce]] W fun x w' => x = .returned (.string (sml k to fd fr e)) ∧ Kept W w') := fun W hW => simple_walk o1 o2 o3 o4 (HAy.out.stay hW).ag
        have HWK : Hid (Ky wr (wr.alloc (.cells #[.int .i64 k, .int .i64 pos, .string to, .string fd, .string fr, .int .i64 e.k, .string e.a, .string e.b, .int .i64 e.op, .int .i64 e.n, .slice pa na ca, .slice pb nb cb, .slice pe ne ce] 67)) ∧ Bl w0 b (acc ++ pre) (wr.alloc (.cells #[.int .i64 k, .int .i64 pos, .string to, .string fd, .string fr, .int .i64 e.k, .string e.a, .string e.b, .int .i64 e.op, .int .i64 e.n, .slice pa na ca, .slice pb nb cb, .slice pe ne ce] 67))) := ⟨((Kept.refl wr).alloc _).ky, hb.kept ((Kept.refl wr).alloc _)⟩
        have HXC : Hid (∀ W, Ky (wr.alloc (.cells #[.int .i64 k, .int .i64 pos, .string to, .string fd, .string fr, .int .i64 e.k, .string e.a, .string e.b, .int .i64 e.op, .int .i64 e.n, .slice pa na ca, .slice pb nb cb, .slice pe ne ce] 67)) W → W.cell? ⟨wr.heap.size, 11, none⟩ = some (.slice pb nb cb) ∧ W.cell? ⟨wr.heap.size, 12, none⟩ = some (.slice pe ne ce)) := fun W hW => by
          have h1 := hW.out _ _ _ _ (alloc_at wr _) (by decide) (by decide)
          exact ⟨by rw [cell_of_row _ _ _ _ _ _ h1]; rfl, by rw [cell_of_row _ _ _ _ _ _ h1]; rfl⟩
        have w1d : IntKind.i64.wrap ((d : Int) + 1) = (d : Int) + 1 := by rw [IntKind.wrap_i64]; omega
        have hd9 : d ≤ 10 := by omega
        have hA0 : (acc ++ pre).size ≤ 500000000000 := by omega
        clear e1d hf hcell hAy hbo hel hscr hpr hps hrz hb hk hg hrl hsc
        generalize acc ++ pre = A0 at *
        by_cases c4 : k = 4
        · subst c4
          have C1 : Hid ((cat [⟨#[105, 102, 32]⟩, fr, ⟨#[32, 123]⟩]).size ≤ 1000000) := by show _ ≤ _; rw [cat3]; simp only [lsz, List.length_cons, List.length_nil]; omega
          have C3 : Hid ((cat [⟨#[125]⟩]).size ≤ 1000000) := by show _ ≤ _; rw [cat1]; simp only [lsz, List.length_cons, List.length_nil]; omega
          have S1 : Hid ((A0 ++ (tb d ++ cat [⟨#[105, 102, 32]⟩, fr, ⟨#[32, 123]⟩] ++ ⟨#[10]⟩)).size + 130 * bo.sz ≤ 400000000000) := by show _ ≤ _; simp only [ByteArray.size_append, cat3, lsz, List.length_cons, List.length_nil]; omega
          have S2 : Hid ((A0 ++ (tb d ++ cat [⟨#[105, 102, 32]⟩, fr, ⟨#[32, 123]⟩] ++ ⟨#[10]⟩) ++ pr (d + 1) bo).size ≤ 500000000000) := by show _ ≤ _; simp only [ByteArray.size_append, cat3, lsz, List.length_cons, List.length_nil]; omega
          by_cases c0 : ne = 0
          · have h0 : ¬ (0 : Int) < (ne : Nat) := by omega
            have HE : Hid (el.len = 0) := by show _ = _; omega
            clear hsb hse hss htb hsz0 hrd hlb hle2 c0 o1 o2 o3 o4 o5 o6 o7
            go_wp2_with (first
                | (go_at_call 30; (with_reducible refine (line_gn (size_alloc wr _) HWK.out.2 d hd9 [⟨#[105, 102, 32]⟩, fr, ⟨#[32, 123]⟩] #[.string ⟨#[105, 102, 32]⟩, .string fr, .string ⟨#[32, 123]⟩] rfl 3 rfl (by decide) hA0 C1.out).mono ?_); rintro e w2 ⟨rfl, b2, k2⟩; have HB2 : Hid _ := b2; have HK2 : Hid (Ky _ w2) := k2; obtain ⟨x26, x27⟩ := HXC.out w2 HK2.out; clear b2 k2)
                | (go_at_call 34; (with_reducible refine (IHb.out w2 _ pb nb cb HB2.out (HSb.out.stay (HWK.out.1.trans HK2.out)) S1.out).mono ?_); rintro e w3 ⟨rfl, b3, k3⟩; have HB3 : Hid _ := b3; have HK3 : Hid (Ky _ w3) := HK2.out.trans k3; obtain ⟨x36, x37⟩ := HXC.out w3 HK3.out; clear b3 k3)
                | (go_at_call 30; (with_reducible refine (line_new HB3.out d hd9 [⟨#[125]⟩] #[.string ⟨#[125]⟩] rfl 1 rfl (by decide) S2.out C3.out).mono ?_); rintro e w4 ⟨rfl, b4, k4⟩; have HB4 : Hid _ := b4; have HK4 : Hid (Ky _ w4) := HK3.out.trans k4; clear b4 k4))
            go_roundg g'
            case measure => omega
            case rel =>
              obtain ⟨r', pre', q1, q2, q3, q4, q5, q6, q7, q8, q9, q10⟩ := HREL.out _ (by rw [pr4_no _ _ _ _ _ _ _ _ HE.out]; simpa only [ByteArray.append_assoc] using HB4.out) (HWK.out.1.trans HK4.out)
              exact ⟨i + 1, r', pre', q1, q2, by go_num, q3, q4, q5, q6, q7, q8, q9, q10⟩
          · have h0 : (0 : Int) < (ne : Nat) := by omega
            have HE : Hid (el.len ≠ 0) := by show _ ≠ _; omega
            have C2 : Hid ((cat [⟨#[125, 32, 101, 108, 115, 101, 32, 123]⟩]).size ≤ 1000000) := by show _ ≤ _; rw [cat1]; simp only [lsz, List.length_cons, List.length_nil]; omega
            have S3 : Hid ((A0 ++ (tb d ++ cat [⟨#[105, 102, 32]⟩, fr, ⟨#[32, 123]⟩] ++ ⟨#[10]⟩) ++ pr (d + 1) bo ++ (tb d ++ cat [⟨#[125, 32, 101, 108, 115, 101, 32, 123]⟩] ++ ⟨#[10]⟩)).size + 130 * el.sz ≤ 400000000000) := by show _ ≤ _; simp only [ByteArray.size_append, cat1, cat3, lsz, List.length_cons, List.length_nil]; omega
            have S4 : Hid ((A0 ++ (tb d ++ cat [⟨#[105, 102, 32]⟩, fr, ⟨#[32, 123]⟩] ++ ⟨#[10]⟩) ++ pr (d + 1) bo ++ (tb d ++ cat [⟨#[125, 32, 101, 108, 115, 101, 32, 123]⟩] ++ ⟨#[10]⟩) ++ pr (d + 1) el).size ≤ 500000000000) := by show _ ≤ _; simp only [ByteArray.size_append, cat1, cat3, lsz, List.length_cons, List.length_nil]; omega
            clear hsb hse hss htb hsz0 hrd hlb hle2 c0 o1 o2 o3 o4 o5 o6 o7
            go_wp2_with (first
                | (go_at_call 30; (with_reducible refine (line_gn (size_alloc wr _) HWK.out.2 d hd9 [⟨#[105, 102, 32]⟩, fr, ⟨#[32, 123]⟩] #[.string ⟨#[105, 102, 32]⟩, .string fr, .string ⟨#[32, 123]⟩] rfl 3 rfl (by decide) hA0 C1.out).mono ?_); rintro e w2 ⟨rfl, b2, k2⟩; have HB2 : Hid _ := b2; have HK2 : Hid (Ky _ w2) := k2; obtain ⟨x26, x27⟩ := HXC.out w2 HK2.out; clear b2 k2)
                | (go_at_call 34; (with_reducible refine (IHb.out w2 _ pb nb cb HB2.out (HSb.out.stay (HWK.out.1.trans HK2.out)) S1.out).mono ?_); rintro e w3 ⟨rfl, b3, k3⟩; have HB3 : Hid _ := b3; have HK3 : Hid (Ky _ w3) := HK2.out.trans k3; obtain ⟨x36, x37⟩ := HXC.out w3 HK3.out; clear b3 k3)
                | (go_at_call 30; (with_reducible refine (line_new HB3.out d hd9 [⟨#[125, 32, 101, 108, 115, 101, 32, 123]⟩] #[.string ⟨#[125, 32, 101, 108, 115, 101, 32, 123]⟩] rfl 1 rfl (by decide) S2.out C2.out).mono ?_); rintro e w4 ⟨rfl, b4, k4⟩; have HB4 : Hid _ := b4; have HK4 : Hid (Ky _ w4) := HK3.out.trans k4; obtain ⟨x46, x47⟩ := HXC.out w4 HK4.out; clear b4 k4)
                | (go_at_call 34; (with_reducible refine (IHe.out w4 _ pe ne ce HB4.out (HSe.out.stay (HWK.out.1.trans HK4.out)) S3.out).mono ?_); rintro e w5 ⟨rfl, b5, k5⟩; have HB5 : Hid _ := b5; have HK5 : Hid (Ky _ w5) := HK4.out.trans k5; obtain ⟨x56, x57⟩ := HXC.out w5 HK5.out; clear b5 k5)
                | (go_at_call 30; (with_reducible refine (line_new HB5.out d hd9 [⟨#[125]⟩] #[.string ⟨#[125]⟩] rfl 1 rfl (by decide) S4.out C3.out).mono ?_); rintro e w6 ⟨rfl, b6, k6⟩; have HB6 : Hid _ := b6; have HK6 : Hid (Ky _ w6) := HK5.out.trans k6; clear b6 k6))
            go_roundg g'
            case measure => omega
            case rel =>
              obtain ⟨r', pre', q1, q2, q3, q4, q5, q6, q7, q8, q9, q10⟩ := HREL.out _ (by rw [pr4_yes _ _ _ _ _ _ _ _ HE.out]; simpa only [ByteArray.append_assoc] using HB6.out) (HWK.out.1.trans HK6.out)
              exact ⟨i + 1, r', pre', q1, q2, by go_num, q3, q4, q5, q6, q7, q8, q9, q10⟩
        · by_cases c5 : k = 5
          · subst c5
            have C1 : Hid ((cat [⟨#[119, 104, 105, 108, 101, 32]⟩, fr, ⟨#[32, 123]⟩]).size ≤ 1000000) := by show _ ≤ _; rw [cat3]; simp only [lsz, List.length_cons, List.length_nil]; omega
            have C3 : Hid ((cat [⟨#[125]⟩]).size ≤ 1000000) := by show _ ≤ _; rw [cat1]; simp only [lsz, List.length_cons, List.length_nil]; omega
            have S1 : Hid ((A0 ++ (tb d ++ cat [⟨#[119, 104, 105, 108, 101, 32]⟩, fr, ⟨#[32, 123]⟩] ++ ⟨#[10]⟩)).size + 130 * bo.sz ≤ 400000000000) := by show _ ≤ _; simp only [ByteArray.size_append, cat3, lsz, List.length_cons, List.length_nil]; omega
            have S2 : Hid ((A0 ++ (tb d ++ cat [⟨#[119, 104, 105, 108, 101, 32]⟩, fr, ⟨#[32, 123]⟩] ++ ⟨#[10]⟩) ++ pr (d + 1) bo).size ≤ 500000000000) := by show _ ≤ _; simp only [ByteArray.size_append, cat3, lsz, List.length_cons, List.length_nil]; omega
            clear hsb hse hss htb hsz0 hrd hlb hle2 o1 o2 o3 o4 o5 o6 o7 c4
            go_wp2_with (first
                | (go_at_call 30; (with_reducible refine (line_gn (size_alloc wr _) HWK.out.2 d hd9 [⟨#[119, 104, 105, 108, 101, 32]⟩, fr, ⟨#[32, 123]⟩] #[.string ⟨#[119, 104, 105, 108, 101, 32]⟩, .string fr, .string ⟨#[32, 123]⟩] rfl 3 rfl (by decide) hA0 C1.out).mono ?_); rintro e w2 ⟨rfl, b2, k2⟩; have HB2 : Hid _ := b2; have HK2 : Hid (Ky _ w2) := k2; obtain ⟨x26, x27⟩ := HXC.out w2 HK2.out; clear b2 k2)
                | (go_at_call 34; (with_reducible refine (IHb.out w2 _ pb nb cb HB2.out (HSb.out.stay (HWK.out.1.trans HK2.out)) S1.out).mono ?_); rintro e w3 ⟨rfl, b3, k3⟩; have HB3 : Hid _ := b3; have HK3 : Hid (Ky _ w3) := HK2.out.trans k3; obtain ⟨x36, x37⟩ := HXC.out w3 HK3.out; clear b3 k3)
                | (go_at_call 30; (with_reducible refine (line_new HB3.out d hd9 [⟨#[125]⟩] #[.string ⟨#[125]⟩] rfl 1 rfl (by decide) S2.out C3.out).mono ?_); rintro e w4 ⟨rfl, b4, k4⟩; have HB4 : Hid _ := b4; have HK4 : Hid (Ky _ w4) := HK3.out.trans k4; clear b4 k4))
            go_roundg g'
            case measure => omega
            case rel =>
              obtain ⟨r', pre', q1, q2, q3, q4, q5, q6, q7, q8, q9, q10⟩ := HREL.out _ (by rw [pr5]; simpa only [ByteArray.append_assoc] using HB4.out) (HWK.out.1.trans HK4.out)
              exact ⟨i + 1, r', pre', q1, q2, by go_num, q3, q4, q5, q6, q7, q8, q9, q10⟩
          · have C1 : Hid ((cat [sml k to fd fr e, ⟨#[59]⟩]).size ≤ 1000000) := by show _ ≤ _; rw [cat2]; simp only [lsz, List.length_cons, List.length_nil]; omega
            have hsm := HSM.out _ HWK.out.1
            clear hsb hse hss htb hsz0 hrd hlb hle2 o1 o2 o3 o4 o5 o6 o7
            have HTX : Hid (∀ tx, tx = sml k to fd fr e → pr d (.one k pos to fd fr e bo el .nil) = tb d ++ cat [tx, ⟨#[59]⟩] ++ ⟨#[10]⟩) := fun tx htx => by rw [htx]; exact pr_else d k pos to fd fr e bo el c4 c5
            obtain ⟨tx, htx⟩ : ∃ tx, tx = sml k to fd fr e := ⟨_, rfl⟩
            have HTE := HTX.out tx htx
            rw [← htx] at hsm C1
            have HTY : Hid _ := HTE
            clear HTE HTX htx HSM
            go_wp2_with (first
              | (go_at_call 40; (with_reducible refine hsm.mono ?_); clear hsm; rintro e w1 ⟨rfl, hk1⟩
                 have KK : Hid (Kept (wr.alloc (.cells #[.int .i64 k, .int .i64 pos, .string to, .string fd, .string fr, .int .i64 e.k, .string e.a, .string e.b, .int .i64 e.op, .int .i64 e.n, .slice pa na ca, .slice pb nb cb, .slice pe ne ce] 67)) w1) := hk1
                 clear hk1)
              | (go_at_call 30; (with_reducible refine (line_new (HWK.out.2.kept KK.out) d hd9 [tx, ⟨#[59]⟩] #[.string tx, .string ⟨#[59]⟩] rfl 2 rfl (by decide) hA0 C1.out).mono ?_); rintro e w2 ⟨rfl, b2, k2⟩; have HB2 : Hid _ := b2; have HK2 : Hid (Ky _ w2) := KK.out.ky.trans k2; clear b2 k2))
            go_roundg g'
            case measure => omega
            case rel =>
              obtain ⟨r', pre', q1, q2, q3, q4, q5, q6, q7, q8, q9, q10⟩ := HREL.out _ (by rw [HTY.out]; exact HB2.out) (HWK.out.1.trans HK2.out)
              exact ⟨i + 1, r', pre', q1, q2, by go_num, q3, q4, q5, q6, q7, q8, q9, q10⟩
end Go.Proofs.YtgdafolidifdoaaDoor.Tp
