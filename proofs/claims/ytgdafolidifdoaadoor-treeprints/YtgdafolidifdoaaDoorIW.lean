/- The walk of the reference's Stmts. Conditions: names are short; blocks are few; strconv's table is laid. -/
import Derived.Test.YtgdafolidifdoaaDoorILit
import Derived.Test.YtgdafolidifdoaaDoorIWa
import Derived.Test.YtgdafolidifdoaaDoorIF
namespace Go.Proofs.YtgdafolidifdoaaDoor.Tp
open Go.ChangeShapes Go.WideShapes Go.ChangeAt Go.RowKit


/-- What is asked of Stmts. -/
def Rk (d : Nat) (s : Sts) : Prop :=
  ∀ (W : World) (p : Option Addr) (n c : Nat), Lds W → Sl W p n c s → Calls Tryd.prog 24 #[.slice p n c, .int .i64 (d : Nat)] W fun e w' => e = .returned (.string (pr d s)) ∧ Kept W w'
set_option maxRecDepth 100000 in
set_option maxHeartbeats 16000000 in
theorem rstmts_walk : ∀ (m : Nat) (s : Sts) (d : Nat), s.sz ≤ m → s.Ok → d + s.dp ≤ 9 → s.sz ≤ 100000 → Rk d s
  | m, s, d, hm, ok, hd, hz => by
    intro w p n c hL hS
    have hn : n ≤ 100000 := by rw [hS.len]; have := s.len_sz; omega
    have hc9 : c ≤ 9223372036854775807 := by have := hS.cap; unfold maxLen at this; omega
    obtain ⟨cs, hSc, hRw⟩ := hS.out
    have HR : Hid (Rw w p n cs) := hRw
    have HLn : Hid (n = s.len) := hS.len
    have HSc : Hid (Sc w s cs) := hSc
    have HOk : Hid (s.Ok) := ok
    have HM : Hid (s.sz ≤ m) := hm
    have HLd : Hid (Lds w) := hL
    have hle := hS.le
    have IH : Hid (∀ (t : Sts) (d' : Nat), t.sz < m → t.Ok → d' + t.dp ≤ 9 → t.sz ≤ 100000 → Rk d' t) := by
      cases m with
      | zero => exact fun t d' ht => absurd ht (Nat.not_lt_zero _)
      | succ m' => exact fun t d' ht h1 h2 h3 => rstmts_walk m' t d' (Nat.lt_succ_iff.1 ht) h1 h2 h3
    clear hS hSc hRw ok hm hL
    go_enter Tryd.func24, Tryd.ntmps24
    go_wp2
    refine wp_loop_ghost_k (fun g' a wx => ∃ tm : Array Value, a = ⟨tm, []⟩ ∧ tm.size = 143 ∧ ∃ (i : Nat) (r : Sts) (pre : ByteArray), tm.getD 0 undef = .slice p n c ∧ tm.getD 1 undef = .int .i64 (d : Nat) ∧ tm.getD 5 undef = .string pre ∧ tm.getD 6 undef = .int .i64 (i : Nat) ∧ i + g' = n ∧ r.len = g' ∧ pr d s = pre ++ pr d r ∧ pre.size + 130 * r.sz ≤ 130 * s.sz ∧ r.Ok ∧ d + r.dp ≤ 9 ∧ r.sz ≤ s.sz ∧ Sc wx r (cs.drop (i * 13)) ∧ Kept w wx) n ?_ ?_
    · exact ⟨_, rfl, rfl, 0, s, ⟨#[]⟩, rfl, rfl, rfl, rfl, by omega, HLn.out.symm, (em_app _).symm, by simp only [lsz, List.length_nil]; omega, HOk.out, hd, Nat.le_refl _, HSc.out, Kept.refl w⟩
    · intro gk a wr hI
      obtain ⟨tm, rfl, hsz, i, r, pre, h0, h1, h5, h6, hg, hrl, hpr, hps, hok, hrd, hrz, hsc, hk⟩ := hI
      intro J K hJ hK
      revert tm
      refine lit143 ?_
      intro u0 u1 u2 u3 u4 u5 u6 u7 u8 u9 u10 u11 u12 u13 u14 u15 u16 u17 u18 u19 u20 u21 u22 u23 u24 u25 u26 u27 u28 u29 u30 u31 u32 u33 u34 u35 u36 u37 u38 u39 u40 u41 u42 u43 u44 u45 u46 u47 u48 u49 u50 u51 u52 u53 u54 u55 u56 u57 u58 u59 u60 u61 u62 u63 u64 u65 u66 u67 u68 u69 u70 u71 u72 u73 u74 u75 u76 u77 u78 u79 u80 u81 u82 u83 u84 u85 u86 u87 u88 u89 u90 u91 u92 u93 u94 u95 u96 u97 u98 u99 u100 u101 u102 u103 u104 u105 u106 u107 u108 u109 u110 u111 u112 u113 u114 u115 u116 u117 u118 u119 u120 u121 u122 u123 u124 u125 u126 u127 u128 u129 u130 u131 u132 u133 u134 u135 u136 u137 u138 u139 u140 u141 u142 h0 h1 h5 h6
      have e0 : u0 = .slice p n c := h0
      have e1 : u1 = .int .i64 (d : Nat) := h1
      have e5 : u5 = .string pre := h5
      have e6 : u6 = .int .i64 (i : Nat) := h6
      clear h0 h1 h5 h6
      subst e0 e1 e5 e6
      cases r using Sts.cut with
      | nil =>
        have hrl' : 0 = gk := hrl
        obtain rfl : i = n := by omega
        have hi2 : ¬ (i : Int) < (i : Nat) := by omega
        have HE : Hid (pr d s = pre) := by
          show _ = _
          rw [hpr]
          exact app_em pre
        have HK : Hid (Kept w wr) := hk
        clear hg hrl hrl' hpr hps hok hrd hrz hsc hk
        go_wp2
        go_ret
        exact ⟨by rw [HE.out]; rfl, HK.out⟩
      | one k pos tz fd fr e bo el r =>
        cases gk with
        | zero => exact absurd hrl (Nat.succ_ne_zero _)
        | succ g' =>
        have hlt : (i : Int) < (n : Nat) := by omega
        have hltn : i < n := by omega
        obtain ⟨rb, ro, rfl, hf⟩ := (HR.out.stay hk.ky).at (by omega)
        obtain ⟨pa, na, ca, pb, nb, cb, pe, ne, ce, hcell, hAy, hbo, hel, hscr⟩ := hsc.step hf
        have HSA : Hid (∀ W, Kept wr W → W.cell? ⟨rb, ro + i * 13, none⟩ = some (.int .i64 k) ∧ W.cell? ⟨rb, ro + i * 13 + 1, none⟩ = some (.int .i64 pos) ∧ W.cell? ⟨rb, ro + i * 13 + 2, none⟩ = some (.string tz) ∧ W.cell? ⟨rb, ro + i * 13 + 3, none⟩ = some (.string fd) ∧ W.cell? ⟨rb, ro + i * 13 + 4, none⟩ = some (.string fr) ∧ W.cell? ⟨rb, ro + i * 13 + 5, none⟩ = some (.int .i64 e.k) ∧ W.cell? ⟨rb, ro + i * 13 + 6, none⟩ = some (.string e.a) ∧ W.cell? ⟨rb, ro + i * 13 + 7, none⟩ = some (.string e.b) ∧ W.cell? ⟨rb, ro + i * 13 + 8, none⟩ = some (.int .i64 e.op) ∧ W.cell? ⟨rb, ro + i * 13 + 9, none⟩ = some (.int .i64 e.n) ∧ W.cell? ⟨rb, ro + i * 13 + 10, none⟩ = some (.slice pa na ca) ∧ W.cell? ⟨rb, ro + i * 13 + 11, none⟩ = some (.slice pb nb cb) ∧ W.cell? ⟨rb, ro + i * 13 + 12, none⟩ = some (.slice pe ne ce)) := fun W hW => ⟨hW.cell (hcell 0 _ rfl), hW.cell (hcell 1 _ rfl), hW.cell (hcell 2 _ rfl), hW.cell (hcell 3 _ rfl), hW.cell (hcell 4 _ rfl), hW.cell (hcell 5 _ rfl), hW.cell (hcell 6 _ rfl), hW.cell (hcell 7 _ rfl), hW.cell (hcell 8 _ rfl), hW.cell (hcell 9 _ rfl), hW.cell (hcell 10 _ rfl), hW.cell (hcell 11 _ rfl), hW.cell (hcell 12 _ rfl)⟩
        rw [Sts.ok_one] at hok
        obtain ⟨o1, o2, o3, o4, o5, o6, o7⟩ := hok
        rw [Sts.dp_one] at hrd
        rw [Sts.sz_one] at hps hrz
        have hlb := hbo.len
        have hle2 := hel.len
        have hcb : cb ≤ 9223372036854775807 := by have := hbo.cap; unfold maxLen at this; omega
        have hce : ce ≤ 9223372036854775807 := by have := hel.cap; unfold maxLen at this; omega
        have hsb := pr_size bo (d + 1) o5 (by omega)
        have hse := pr_size el (d + 1) o6 (by omega)
        have htb := tb_size d
        have hxs := o4.ex
        have e1d : ((d + 1 : Nat) : Int) = (d : Int) + 1 := by omega
        have IHb : Hid (∀ (W : World), Kept wr W → Calls Tryd.prog 24 #[.slice pb nb cb, .int .i64 ((d : Int) + 1)] W fun e w' => e = .returned (.string (pr (d + 1) bo)) ∧ Kept W w') := fun W q1 => by
          have q := IH.out bo (d + 1) (by have := HM.out; omega) o5 (by omega) (by omega) W pb nb cb (HLd.out.kept (hk.trans q1)) (hbo.stay q1.ky)
          rwa [e1d] at q
        have IHe : Hid (∀ (W : World), Kept wr W → Calls Tryd.prog 24 #[.slice pe ne ce, .int .i64 ((d : Int) + 1)] W fun e w' => e = .returned (.string (pr (d + 1) el)) ∧ Kept W w') := fun W q1 => by
          have q := IH.out el (d + 1) (by have := HM.out; omega) o6 (by omega) (by omega) W pe ne ce (HLd.out.kept (hk.trans q1)) (hel.stay q1.ky)
          rwa [e1d] at q
        have HX : Hid (∀ (W : World), Kept wr W → Calls Tryd.prog 11 #[.agg #[.int .i64 e.k, .string e.a, .string e.b, .int .i64 e.op, .int .i64 e.n, .slice pa na ca]] W fun x w' => x = .returned (.string (ex e)) ∧ Kept W w') := fun W q1 => rexpr_walk (HLd.out.kept (hk.trans q1)) e o4 (hAy.stay q1.ky).ag
        have HTb : Hid (∀ W, Calls Tryd.prog 35 #[.int .i64 (d : Nat)] W fun e w' => e = .returned (.string (tb d)) ∧ w' = W) := fun W => tabs_walk d (by omega) W
        have HREL : Hid (∀ W pre', pre' = pre ++ pr d (.one k pos tz fd fr e bo el .nil) → Kept wr W → ∃ (r' : Sts), i + 1 + g' = n ∧ r'.len = g' ∧ pr d s = pre' ++ pr d r' ∧ pre'.size + 130 * r'.sz ≤ 130 * s.sz ∧ r'.Ok ∧ d + r'.dp ≤ 9 ∧ r'.sz ≤ s.sz ∧ Sc W r' (cs.drop ((i + 1) * 13)) ∧ Kept w W) := fun W pre' hp hK => by
          have h1 := pr_size (.one k pos tz fd fr e bo el .nil) d ⟨o1, o2, o3, o4, o5, o6, trivial⟩ (by rw [Sts.dp_one, Sts.dp_nil]; omega)
          rw [Sts.sz_one, Sts.sz_nil] at h1
          subst hp
          exact ⟨r, by omega, Nat.succ.inj hrl, by rw [hpr, pr_one, ByteArray.append_assoc], by rw [ByteArray.size_append]; omega, o7, by omega, by omega, Sc.stay hK.ky _ _ hscr, hk.trans hK⟩
        have hpsz : pre.size ≤ 13000000 := by omega
        have hbsz : bo.sz ≤ 100000 := by omega
        have hesz : el.sz ≤ 100000 := by omega
        have hd9 : d ≤ 10 := by omega
        have w1d : IntKind.i64.wrap ((d : Int) + 1) = (d : Int) + 1 := by rw [IntKind.wrap_i64]; omega
        have htb2 : (tb d).size ≤ 10 := by omega
        clear e1d hf hcell hAy hbo hel hscr hpr hps hrz hk hg hrl hsc o4 o5 o6 o7 hrd hlb
        have HLE : Hid (ne = el.len) := hle2
        clear htb hle2
        go_wp2
        go_region_held3 (fun W => W.cell? ⟨rb, ro + i * 13, none⟩ = some (.int .i64 k) ∧ W.cell? ⟨rb, ro + i * 13 + 1, none⟩ = some (.int .i64 pos) ∧ W.cell? ⟨rb, ro + i * 13 + 2, none⟩ = some (.string tz) ∧ W.cell? ⟨rb, ro + i * 13 + 3, none⟩ = some (.string fd) ∧ W.cell? ⟨rb, ro + i * 13 + 4, none⟩ = some (.string fr) ∧ W.cell? ⟨rb, ro + i * 13 + 5, none⟩ = some (.int .i64 e.k) ∧ W.cell? ⟨rb, ro + i * 13 + 6, none⟩ = some (.string e.a) ∧ W.cell? ⟨rb, ro + i * 13 + 7, none⟩ = some (.string e.b) ∧ W.cell? ⟨rb, ro + i * 13 + 8, none⟩ = some (.int .i64 e.op) ∧ W.cell? ⟨rb, ro + i * 13 + 9, none⟩ = some (.int .i64 e.n) ∧ W.cell? ⟨rb, ro + i * 13 + 10, none⟩ = some (.slice pa na ca) ∧ W.cell? ⟨rb, ro + i * 13 + 11, none⟩ = some (.slice pb nb cb) ∧ W.cell? ⟨rb, ro + i * 13 + 12, none⟩ = some (.slice pe ne ce)) (exact HSA.out _ (by (repeat (first | (refine Kept.setCell ?_ (Kept.size ?_) _) | assumption | exact Kept.refl _ | apply Kept.drew | apply Kept.alloc)))) (first
          | (go_at_call 35; (with_reducible refine (HTb.out _).mono ?_); rintro e w1 ⟨rfl, rfl⟩)
          | fail)
        all_goals
          clear HSA HTb HR HLn HSc HOk HM HLd IH
          by_cases c1 : k = 1
          · subst c1
            have b1 : ¬ 9223372036854775807 < (tz : ByteArray).size + (⟨#[32, 61, 32]⟩ : ByteArray).size := by simp only [lsz, List.length_cons, List.length_nil]; omega
            have c1 : ¬ 9223372036854775807 < tz.size + 3 := by omega
            have b2 : ¬ 9223372036854775807 < (tz ++ ⟨#[32, 61, 32]⟩ : ByteArray).size + (ex e : ByteArray).size := by simp only [ByteArray.size_append, lsz, List.length_cons, List.length_nil]; omega
            have c2 : ¬ 9223372036854775807 < tz.size + 3 + (ex e).size := by omega
            have b3 : ¬ 9223372036854775807 < (tz ++ ⟨#[32, 61, 32]⟩ ++ ex e : ByteArray).size + (⟨#[59]⟩ : ByteArray).size := by simp only [ByteArray.size_append, lsz, List.length_cons, List.length_nil]; omega
            have c3 : ¬ 9223372036854775807 < tz.size + 3 + (ex e).size + 1 := by omega
            have t0 : ¬ 9223372036854775807 < (tb d : ByteArray).size + ((tz ++ ⟨#[32, 61, 32]⟩ ++ ex e ++ ⟨#[59]⟩) : ByteArray).size := by simp only [ByteArray.size_append, lsz, List.length_cons, List.length_nil]; omega
            have t1 : ¬ 9223372036854775807 < (tb d ++ (tz ++ ⟨#[32, 61, 32]⟩ ++ ex e ++ ⟨#[59]⟩) : ByteArray).size + (⟨#[10]⟩ : ByteArray).size := by simp only [ByteArray.size_append, lsz, List.length_cons, List.length_nil]; omega
            have t2 : ¬ 9223372036854775807 < (pre : ByteArray).size + ((tb d ++ (tz ++ ⟨#[32, 61, 32]⟩ ++ ex e ++ ⟨#[59]⟩) ++ ⟨#[10]⟩) : ByteArray).size := by simp only [ByteArray.size_append, lsz, List.length_cons, List.length_nil]; omega
            have HXX : Hid (∀ W, Kept ((wr.alloc (.cells #[.int .i64 1, .int .i64 pos, .string tz, .string fd, .string fr, .int .i64 e.k, .string e.a, .string e.b, .int .i64 e.op, .int .i64 e.n, .slice pa na ca, .slice pb nb cb, .slice pe ne ce] 67)).drew) W → Calls Tryd.prog 11 #[.agg #[.int .i64 e.k, .string e.a, .string e.b, .int .i64 e.op, .int .i64 e.n, .slice pa na ca]] W fun x w' => x = .returned (.string (ex e)) ∧ Kept ((wr.alloc (.cells #[.int .i64 1, .int .i64 pos, .string tz, .string fd, .string fr, .int .i64 e.k, .string e.a, .string e.b, .int .i64 e.op, .int .i64 e.n, .slice pa na ca, .slice pb nb cb, .slice pe ne ce] 67)).drew) w') := fun W hW => (HX.out W ((Kept.drew (Kept.alloc (Kept.refl wr) _)).trans hW)).mono fun _ _ ⟨a1, a2⟩ => ⟨a1, hW.trans a2⟩
            have HSB : Hid (∀ W, Kept ((wr.alloc (.cells #[.int .i64 1, .int .i64 pos, .string tz, .string fd, .string fr, .int .i64 e.k, .string e.a, .string e.b, .int .i64 e.op, .int .i64 e.n, .slice pa na ca, .slice pb nb cb, .slice pe ne ce] 67)).drew) W → W.cell? ⟨wr.heap.size, 2, none⟩ = some (.string tz) ∧ W.cell? ⟨wr.heap.size, 5, none⟩ = some (.int .i64 e.k) ∧ W.cell? ⟨wr.heap.size, 6, none⟩ = some (.string e.a) ∧ W.cell? ⟨wr.heap.size, 7, none⟩ = some (.string e.b) ∧ W.cell? ⟨wr.heap.size, 8, none⟩ = some (.int .i64 e.op) ∧ W.cell? ⟨wr.heap.size, 9, none⟩ = some (.int .i64 e.n) ∧ W.cell? ⟨wr.heap.size, 10, none⟩ = some (.slice pa na ca)) := fun W hW => by
              have hb : W.heap[wr.heap.size]? = some (.cells #[.int .i64 1, .int .i64 pos, .string tz, .string fd, .string fr, .int .i64 e.k, .string e.a, .string e.b, .int .i64 e.op, .int .i64 e.n, .slice pa na ca, .slice pb nb cb, .slice pe ne ce] 67) := hW.block (alloc_at wr _)
              exact ⟨by rw [cell_of_row _ wr.heap.size 2 _ _ _ hb]; rfl, by rw [cell_of_row _ wr.heap.size 5 _ _ _ hb]; rfl, by rw [cell_of_row _ wr.heap.size 6 _ _ _ hb]; rfl, by rw [cell_of_row _ wr.heap.size 7 _ _ _ hb]; rfl, by rw [cell_of_row _ wr.heap.size 8 _ _ _ hb]; rfl, by rw [cell_of_row _ wr.heap.size 9 _ _ _ hb]; rfl, by rw [cell_of_row _ wr.heap.size 10 _ _ _ hb]; rfl⟩
            clear hsb hse hxs htb2 o1 o2 o3 hpsz hbsz hesz IHb IHe HX
            go_wp2
            go_region_held3 (fun W => W.cell? ⟨wr.heap.size, 2, none⟩ = some (.string tz) ∧ W.cell? ⟨wr.heap.size, 5, none⟩ = some (.int .i64 e.k) ∧ W.cell? ⟨wr.heap.size, 6, none⟩ = some (.string e.a) ∧ W.cell? ⟨wr.heap.size, 7, none⟩ = some (.string e.b) ∧ W.cell? ⟨wr.heap.size, 8, none⟩ = some (.int .i64 e.op) ∧ W.cell? ⟨wr.heap.size, 9, none⟩ = some (.int .i64 e.n) ∧ W.cell? ⟨wr.heap.size, 10, none⟩ = some (.slice pa na ca)) (exact HSB.out _ (by (repeat (first | assumption | exact Kept.refl _ | apply Kept.drew | apply Kept.alloc)))) (first
              | (go_at_call 11; (with_reducible refine (HXX.out _ ?_).mono ?_); (repeat (first | assumption | exact Kept.refl _ | apply Kept.drew | apply Kept.alloc)); rintro e1 w3 ⟨rfl, hk3⟩)
              | fail)
            all_goals
              have HK3 : Hid (Kept wr w3) := (Kept.drew (Kept.alloc (Kept.refl wr) _)).trans hk3
              clear hk3
              go_wp2
              refine Handed.intro g' (Nat.lt_succ_self g') (hJ _ _ _ ?_)
              · obtain ⟨r', q1, q2, q3, q4, q5, q6, q7, q8, q9⟩ := HREL.out _ _ (by rw [pk1]) HK3.out
                exact ⟨_, rfl, rfl, i + 1, r', _, rfl, rfl, rfl, (show Value.int .i64 ((i : Int) + 1) = .int .i64 ((i + 1 : Nat) : Int) by go_num), q1, q2, q3, q4, q5, q6, q7, q8, q9⟩
          by_cases c2 : k = 2
          · subst c2
            have b1 : ¬ 9223372036854775807 < (⟨#[64]⟩ : ByteArray).size + (tz : ByteArray).size := by simp only [lsz, List.length_cons, List.length_nil]; omega
            have c1 : ¬ 9223372036854775807 < 1 + tz.size := by omega
            have b2 : ¬ 9223372036854775807 < (⟨#[64]⟩ ++ tz : ByteArray).size + (⟨#[32, 61, 32]⟩ : ByteArray).size := by simp only [ByteArray.size_append, lsz, List.length_cons, List.length_nil]; omega
            have c2 : ¬ 9223372036854775807 < 1 + tz.size + 3 := by omega
            have b3 : ¬ 9223372036854775807 < (⟨#[64]⟩ ++ tz ++ ⟨#[32, 61, 32]⟩ : ByteArray).size + (fr : ByteArray).size := by simp only [ByteArray.size_append, lsz, List.length_cons, List.length_nil]; omega
            have c3 : ¬ 9223372036854775807 < 1 + tz.size + 3 + fr.size := by omega
            have b4 : ¬ 9223372036854775807 < (⟨#[64]⟩ ++ tz ++ ⟨#[32, 61, 32]⟩ ++ fr : ByteArray).size + (⟨#[59]⟩ : ByteArray).size := by simp only [ByteArray.size_append, lsz, List.length_cons, List.length_nil]; omega
            have c4 : ¬ 9223372036854775807 < 1 + tz.size + 3 + fr.size + 1 := by omega
            have t0 : ¬ 9223372036854775807 < (tb d : ByteArray).size + ((⟨#[64]⟩ ++ tz ++ ⟨#[32, 61, 32]⟩ ++ fr ++ ⟨#[59]⟩) : ByteArray).size := by simp only [ByteArray.size_append, lsz, List.length_cons, List.length_nil]; omega
            have t1 : ¬ 9223372036854775807 < (tb d ++ (⟨#[64]⟩ ++ tz ++ ⟨#[32, 61, 32]⟩ ++ fr ++ ⟨#[59]⟩) : ByteArray).size + (⟨#[10]⟩ : ByteArray).size := by simp only [ByteArray.size_append, lsz, List.length_cons, List.length_nil]; omega
            have t2 : ¬ 9223372036854775807 < (pre : ByteArray).size + ((tb d ++ (⟨#[64]⟩ ++ tz ++ ⟨#[32, 61, 32]⟩ ++ fr ++ ⟨#[59]⟩) ++ ⟨#[10]⟩) : ByteArray).size := by simp only [ByteArray.size_append, lsz, List.length_cons, List.length_nil]; omega
            clear hsb hse hxs htb2 o1 o2 o3 hpsz hbsz hesz IHb IHe HX
            go_wp2
            refine Handed.intro g' (Nat.lt_succ_self g') (hJ _ _ _ ?_)
            · obtain ⟨r', q1, q2, q3, q4, q5, q6, q7, q8, q9⟩ := HREL.out _ _ (by rw [pk2]) (Kept.drew (Kept.alloc (Kept.refl wr) _))
              exact ⟨_, rfl, rfl, i + 1, r', _, rfl, rfl, rfl, (show Value.int .i64 ((i : Int) + 1) = .int .i64 ((i + 1 : Nat) : Int) by go_num), q1, q2, q3, q4, q5, q6, q7, q8, q9⟩
          by_cases c3 : k = 3
          · subst c3
            have b1 : ¬ 9223372036854775807 < (tz : ByteArray).size + (⟨#[46]⟩ : ByteArray).size := by simp only [lsz, List.length_cons, List.length_nil]; omega
            have c1 : ¬ 9223372036854775807 < tz.size + 1 := by omega
            have b2 : ¬ 9223372036854775807 < (tz ++ ⟨#[46]⟩ : ByteArray).size + (fd : ByteArray).size := by simp only [ByteArray.size_append, lsz, List.length_cons, List.length_nil]; omega
            have c2 : ¬ 9223372036854775807 < tz.size + 1 + fd.size := by omega
            have b3 : ¬ 9223372036854775807 < (tz ++ ⟨#[46]⟩ ++ fd : ByteArray).size + (⟨#[32, 61, 32]⟩ : ByteArray).size := by simp only [ByteArray.size_append, lsz, List.length_cons, List.length_nil]; omega
            have c3 : ¬ 9223372036854775807 < tz.size + 1 + fd.size + 3 := by omega
            have b4 : ¬ 9223372036854775807 < (tz ++ ⟨#[46]⟩ ++ fd ++ ⟨#[32, 61, 32]⟩ : ByteArray).size + (fr : ByteArray).size := by simp only [ByteArray.size_append, lsz, List.length_cons, List.length_nil]; omega
            have c4 : ¬ 9223372036854775807 < tz.size + 1 + fd.size + 3 + fr.size := by omega
            have b5 : ¬ 9223372036854775807 < (tz ++ ⟨#[46]⟩ ++ fd ++ ⟨#[32, 61, 32]⟩ ++ fr : ByteArray).size + (⟨#[59]⟩ : ByteArray).size := by simp only [ByteArray.size_append, lsz, List.length_cons, List.length_nil]; omega
            have c5 : ¬ 9223372036854775807 < tz.size + 1 + fd.size + 3 + fr.size + 1 := by omega
            have t0 : ¬ 9223372036854775807 < (tb d : ByteArray).size + ((tz ++ ⟨#[46]⟩ ++ fd ++ ⟨#[32, 61, 32]⟩ ++ fr ++ ⟨#[59]⟩) : ByteArray).size := by simp only [ByteArray.size_append, lsz, List.length_cons, List.length_nil]; omega
            have t1 : ¬ 9223372036854775807 < (tb d ++ (tz ++ ⟨#[46]⟩ ++ fd ++ ⟨#[32, 61, 32]⟩ ++ fr ++ ⟨#[59]⟩) : ByteArray).size + (⟨#[10]⟩ : ByteArray).size := by simp only [ByteArray.size_append, lsz, List.length_cons, List.length_nil]; omega
            have t2 : ¬ 9223372036854775807 < (pre : ByteArray).size + ((tb d ++ (tz ++ ⟨#[46]⟩ ++ fd ++ ⟨#[32, 61, 32]⟩ ++ fr ++ ⟨#[59]⟩) ++ ⟨#[10]⟩) : ByteArray).size := by simp only [ByteArray.size_append, lsz, List.length_cons, List.length_nil]; omega
            clear hsb hse hxs htb2 o1 o2 o3 hpsz hbsz hesz IHb IHe HX
            go_wp2
            refine Handed.intro g' (Nat.lt_succ_self g') (hJ _ _ _ ?_)
            · obtain ⟨r', q1, q2, q3, q4, q5, q6, q7, q8, q9⟩ := HREL.out _ _ (by rw [pk3]) (Kept.drew (Kept.alloc (Kept.refl wr) _))
              exact ⟨_, rfl, rfl, i + 1, r', _, rfl, rfl, rfl, (show Value.int .i64 ((i : Int) + 1) = .int .i64 ((i + 1 : Nat) : Int) by go_num), q1, q2, q3, q4, q5, q6, q7, q8, q9⟩
          by_cases c4 : k = 4
          · subst c4
            by_cases c0 : ne = 0
            · have h0 : ¬ (0 : Int) < (ne : Nat) := by omega
              have HE : Hid (el.len = 0) := by show _ = _; rw [← HLE.out]; exact c0
              clear c0
              have b1 : ¬ 9223372036854775807 < (⟨#[105, 102, 32]⟩ : ByteArray).size + (fr : ByteArray).size := by simp only [lsz, List.length_cons, List.length_nil]; omega
              have c1 : ¬ 9223372036854775807 < 3 + fr.size := by omega
              have b2 : ¬ 9223372036854775807 < (⟨#[105, 102, 32]⟩ ++ fr : ByteArray).size + (⟨#[32, 123, 10]⟩ : ByteArray).size := by simp only [ByteArray.size_append, lsz, List.length_cons, List.length_nil]; omega
              have c2 : ¬ 9223372036854775807 < 3 + fr.size + 3 := by omega
              have b3 : ¬ 9223372036854775807 < (⟨#[105, 102, 32]⟩ ++ fr ++ ⟨#[32, 123, 10]⟩ : ByteArray).size + (pr (d + 1) bo : ByteArray).size := by simp only [ByteArray.size_append, lsz, List.length_cons, List.length_nil]; omega
              have c3 : ¬ 9223372036854775807 < 3 + fr.size + 3 + (pr (d + 1) bo).size := by omega
              have b4 : ¬ 9223372036854775807 < (⟨#[105, 102, 32]⟩ ++ fr ++ ⟨#[32, 123, 10]⟩ ++ pr (d + 1) bo : ByteArray).size + (tb d : ByteArray).size := by simp only [ByteArray.size_append, lsz, List.length_cons, List.length_nil]; omega
              have c4 : ¬ 9223372036854775807 < 3 + fr.size + 3 + (pr (d + 1) bo).size + (tb d).size := by omega
              have b5 : ¬ 9223372036854775807 < (⟨#[105, 102, 32]⟩ ++ fr ++ ⟨#[32, 123, 10]⟩ ++ pr (d + 1) bo ++ tb d : ByteArray).size + (⟨#[125]⟩ : ByteArray).size := by simp only [ByteArray.size_append, lsz, List.length_cons, List.length_nil]; omega
              have c5 : ¬ 9223372036854775807 < 3 + fr.size + 3 + (pr (d + 1) bo).size + (tb d).size + 1 := by omega
              have t0 : ¬ 9223372036854775807 < (tb d : ByteArray).size + ((⟨#[105, 102, 32]⟩ ++ fr ++ ⟨#[32, 123, 10]⟩ ++ pr (d + 1) bo ++ tb d ++ ⟨#[125]⟩) : ByteArray).size := by simp only [ByteArray.size_append, lsz, List.length_cons, List.length_nil]; omega
              have t1 : ¬ 9223372036854775807 < (tb d ++ (⟨#[105, 102, 32]⟩ ++ fr ++ ⟨#[32, 123, 10]⟩ ++ pr (d + 1) bo ++ tb d ++ ⟨#[125]⟩) : ByteArray).size + (⟨#[10]⟩ : ByteArray).size := by simp only [ByteArray.size_append, lsz, List.length_cons, List.length_nil]; omega
              have t2 : ¬ 9223372036854775807 < (pre : ByteArray).size + ((tb d ++ (⟨#[105, 102, 32]⟩ ++ fr ++ ⟨#[32, 123, 10]⟩ ++ pr (d + 1) bo ++ tb d ++ ⟨#[125]⟩) ++ ⟨#[10]⟩) : ByteArray).size := by simp only [ByteArray.size_append, lsz, List.length_cons, List.length_nil]; omega
              have HXX : Hid (∀ W, Kept ((wr.alloc (.cells #[.int .i64 4, .int .i64 pos, .string tz, .string fd, .string fr, .int .i64 e.k, .string e.a, .string e.b, .int .i64 e.op, .int .i64 e.n, .slice pa na ca, .slice pb nb cb, .slice pe ne ce] 67)).drew) W → Calls Tryd.prog 24 #[.slice pb nb cb, .int .i64 ((d : Int) + 1)] W fun x w' => x = .returned (.string (pr (d + 1) bo)) ∧ Kept ((wr.alloc (.cells #[.int .i64 4, .int .i64 pos, .string tz, .string fd, .string fr, .int .i64 e.k, .string e.a, .string e.b, .int .i64 e.op, .int .i64 e.n, .slice pa na ca, .slice pb nb cb, .slice pe ne ce] 67)).drew) w') := fun W hW => (IHb.out W ((Kept.drew (Kept.alloc (Kept.refl wr) _)).trans hW)).mono fun _ _ ⟨a1, a2⟩ => ⟨a1, hW.trans a2⟩
              have HSB : Hid (∀ W, Kept ((wr.alloc (.cells #[.int .i64 4, .int .i64 pos, .string tz, .string fd, .string fr, .int .i64 e.k, .string e.a, .string e.b, .int .i64 e.op, .int .i64 e.n, .slice pa na ca, .slice pb nb cb, .slice pe ne ce] 67)).drew) W → W.cell? ⟨wr.heap.size, 4, none⟩ = some (.string fr) ∧ W.cell? ⟨wr.heap.size, 11, none⟩ = some (.slice pb nb cb) ∧ W.cell? ⟨wr.heap.size, 12, none⟩ = some (.slice pe ne ce)) := fun W hW => by
                have hb : W.heap[wr.heap.size]? = some (.cells #[.int .i64 4, .int .i64 pos, .string tz, .string fd, .string fr, .int .i64 e.k, .string e.a, .string e.b, .int .i64 e.op, .int .i64 e.n, .slice pa na ca, .slice pb nb cb, .slice pe ne ce] 67) := hW.block (alloc_at wr _)
                exact ⟨by rw [cell_of_row _ wr.heap.size 4 _ _ _ hb]; rfl, by rw [cell_of_row _ wr.heap.size 11 _ _ _ hb]; rfl, by rw [cell_of_row _ wr.heap.size 12 _ _ _ hb]; rfl⟩
              clear hsb hse hxs htb2 o1 o2 o3 hpsz hbsz hesz IHb HX
              go_wp2
              go_region_held3 (fun W => W.cell? ⟨wr.heap.size, 4, none⟩ = some (.string fr) ∧ W.cell? ⟨wr.heap.size, 11, none⟩ = some (.slice pb nb cb) ∧ W.cell? ⟨wr.heap.size, 12, none⟩ = some (.slice pe ne ce)) (exact HSB.out _ (by (repeat (first | assumption | exact Kept.refl _ | apply Kept.drew | apply Kept.alloc)))) (first
                | (go_at_call 24; (with_reducible refine (HXX.out _ ?_).mono ?_); (repeat (first | assumption | exact Kept.refl _ | apply Kept.drew | apply Kept.alloc)); rintro e1 w3 ⟨rfl, hk3⟩)
                | fail)
              all_goals
                have g12 := (HSB.out w3 hk3).2.2
                have HK3 : Hid (Kept wr w3) := (Kept.drew (Kept.alloc (Kept.refl wr) _)).trans hk3
                clear hk3
                go_wp2
                refine Handed.intro g' (Nat.lt_succ_self g') (hJ _ _ _ ?_)
                · obtain ⟨r', q1, q2, q3, q4, q5, q6, q7, q8, q9⟩ := HREL.out _ _ (by rw [pk4n _ _ _ _ _ _ _ _ (HE.out)]) HK3.out
                  exact ⟨_, rfl, rfl, i + 1, r', _, rfl, rfl, rfl, (show Value.int .i64 ((i : Int) + 1) = .int .i64 ((i + 1 : Nat) : Int) by go_num), q1, q2, q3, q4, q5, q6, q7, q8, q9⟩
            · have h0 : (0 : Int) < (ne : Nat) := by omega
              have HE : Hid (el.len ≠ 0) := by show _ ≠ _; rw [← HLE.out]; exact c0
              clear c0
              have b1 : ¬ 9223372036854775807 < (⟨#[105, 102, 32]⟩ : ByteArray).size + (fr : ByteArray).size := by simp only [lsz, List.length_cons, List.length_nil]; omega
              have c1 : ¬ 9223372036854775807 < 3 + fr.size := by omega
              have b2 : ¬ 9223372036854775807 < (⟨#[105, 102, 32]⟩ ++ fr : ByteArray).size + (⟨#[32, 123, 10]⟩ : ByteArray).size := by simp only [ByteArray.size_append, lsz, List.length_cons, List.length_nil]; omega
              have c2 : ¬ 9223372036854775807 < 3 + fr.size + 3 := by omega
              have b3 : ¬ 9223372036854775807 < (⟨#[105, 102, 32]⟩ ++ fr ++ ⟨#[32, 123, 10]⟩ : ByteArray).size + (pr (d + 1) bo : ByteArray).size := by simp only [ByteArray.size_append, lsz, List.length_cons, List.length_nil]; omega
              have c3 : ¬ 9223372036854775807 < 3 + fr.size + 3 + (pr (d + 1) bo).size := by omega
              have b4 : ¬ 9223372036854775807 < (⟨#[105, 102, 32]⟩ ++ fr ++ ⟨#[32, 123, 10]⟩ ++ pr (d + 1) bo : ByteArray).size + (tb d : ByteArray).size := by simp only [ByteArray.size_append, lsz, List.length_cons, List.length_nil]; omega
              have c4 : ¬ 9223372036854775807 < 3 + fr.size + 3 + (pr (d + 1) bo).size + (tb d).size := by omega
              have b5 : ¬ 9223372036854775807 < (⟨#[105, 102, 32]⟩ ++ fr ++ ⟨#[32, 123, 10]⟩ ++ pr (d + 1) bo ++ tb d : ByteArray).size + (⟨#[125]⟩ : ByteArray).size := by simp only [ByteArray.size_append, lsz, List.length_cons, List.length_nil]; omega
              have c5 : ¬ 9223372036854775807 < 3 + fr.size + 3 + (pr (d + 1) bo).size + (tb d).size + 1 := by omega
              have b6 : ¬ 9223372036854775807 < (⟨#[32, 101, 108, 115, 101, 32, 123, 10]⟩ : ByteArray).size + (pr (d + 1) el : ByteArray).size := by simp only [lsz, List.length_cons, List.length_nil]; omega
              have c6 : ¬ 9223372036854775807 < 8 + (pr (d + 1) el).size := by omega
              have b7 : ¬ 9223372036854775807 < (⟨#[32, 101, 108, 115, 101, 32, 123, 10]⟩ ++ pr (d + 1) el : ByteArray).size + (tb d : ByteArray).size := by simp only [ByteArray.size_append, lsz, List.length_cons, List.length_nil]; omega
              have c7 : ¬ 9223372036854775807 < 8 + (pr (d + 1) el).size + (tb d).size := by omega
              have b8 : ¬ 9223372036854775807 < (⟨#[32, 101, 108, 115, 101, 32, 123, 10]⟩ ++ pr (d + 1) el ++ tb d : ByteArray).size + (⟨#[125]⟩ : ByteArray).size := by simp only [ByteArray.size_append, lsz, List.length_cons, List.length_nil]; omega
              have c8 : ¬ 9223372036854775807 < 8 + (pr (d + 1) el).size + (tb d).size + 1 := by omega
              have b9 : ¬ 9223372036854775807 < (⟨#[105, 102, 32]⟩ ++ fr ++ ⟨#[32, 123, 10]⟩ ++ pr (d + 1) bo ++ tb d ++ ⟨#[125]⟩ : ByteArray).size + ((⟨#[32, 101, 108, 115, 101, 32, 123, 10]⟩ ++ pr (d + 1) el ++ tb d ++ ⟨#[125]⟩) : ByteArray).size := by simp only [ByteArray.size_append, lsz, List.length_cons, List.length_nil]; omega
              have t0 : ¬ 9223372036854775807 < (tb d : ByteArray).size + ((⟨#[105, 102, 32]⟩ ++ fr ++ ⟨#[32, 123, 10]⟩ ++ pr (d + 1) bo ++ tb d ++ ⟨#[125]⟩ ++ (⟨#[32, 101, 108, 115, 101, 32, 123, 10]⟩ ++ pr (d + 1) el ++ tb d ++ ⟨#[125]⟩)) : ByteArray).size := by simp only [ByteArray.size_append, lsz, List.length_cons, List.length_nil]; omega
              have t1 : ¬ 9223372036854775807 < (tb d ++ (⟨#[105, 102, 32]⟩ ++ fr ++ ⟨#[32, 123, 10]⟩ ++ pr (d + 1) bo ++ tb d ++ ⟨#[125]⟩ ++ (⟨#[32, 101, 108, 115, 101, 32, 123, 10]⟩ ++ pr (d + 1) el ++ tb d ++ ⟨#[125]⟩)) : ByteArray).size + (⟨#[10]⟩ : ByteArray).size := by simp only [ByteArray.size_append, lsz, List.length_cons, List.length_nil]; omega
              have t2 : ¬ 9223372036854775807 < (pre : ByteArray).size + ((tb d ++ (⟨#[105, 102, 32]⟩ ++ fr ++ ⟨#[32, 123, 10]⟩ ++ pr (d + 1) bo ++ tb d ++ ⟨#[125]⟩ ++ (⟨#[32, 101, 108, 115, 101, 32, 123, 10]⟩ ++ pr (d + 1) el ++ tb d ++ ⟨#[125]⟩)) ++ ⟨#[10]⟩) : ByteArray).size := by simp only [ByteArray.size_append, lsz, List.length_cons, List.length_nil]; omega
              have HXX : Hid (∀ W, Kept ((wr.alloc (.cells #[.int .i64 4, .int .i64 pos, .string tz, .string fd, .string fr, .int .i64 e.k, .string e.a, .string e.b, .int .i64 e.op, .int .i64 e.n, .slice pa na ca, .slice pb nb cb, .slice pe ne ce] 67)).drew) W → Calls Tryd.prog 24 #[.slice pb nb cb, .int .i64 ((d : Int) + 1)] W fun x w' => x = .returned (.string (pr (d + 1) bo)) ∧ Kept ((wr.alloc (.cells #[.int .i64 4, .int .i64 pos, .string tz, .string fd, .string fr, .int .i64 e.k, .string e.a, .string e.b, .int .i64 e.op, .int .i64 e.n, .slice pa na ca, .slice pb nb cb, .slice pe ne ce] 67)).drew) w') := fun W hW => (IHb.out W ((Kept.drew (Kept.alloc (Kept.refl wr) _)).trans hW)).mono fun _ _ ⟨a1, a2⟩ => ⟨a1, hW.trans a2⟩
              have HSB : Hid (∀ W, Kept ((wr.alloc (.cells #[.int .i64 4, .int .i64 pos, .string tz, .string fd, .string fr, .int .i64 e.k, .string e.a, .string e.b, .int .i64 e.op, .int .i64 e.n, .slice pa na ca, .slice pb nb cb, .slice pe ne ce] 67)).drew) W → W.cell? ⟨wr.heap.size, 4, none⟩ = some (.string fr) ∧ W.cell? ⟨wr.heap.size, 11, none⟩ = some (.slice pb nb cb) ∧ W.cell? ⟨wr.heap.size, 12, none⟩ = some (.slice pe ne ce)) := fun W hW => by
                have hb : W.heap[wr.heap.size]? = some (.cells #[.int .i64 4, .int .i64 pos, .string tz, .string fd, .string fr, .int .i64 e.k, .string e.a, .string e.b, .int .i64 e.op, .int .i64 e.n, .slice pa na ca, .slice pb nb cb, .slice pe ne ce] 67) := hW.block (alloc_at wr _)
                exact ⟨by rw [cell_of_row _ wr.heap.size 4 _ _ _ hb]; rfl, by rw [cell_of_row _ wr.heap.size 11 _ _ _ hb]; rfl, by rw [cell_of_row _ wr.heap.size 12 _ _ _ hb]; rfl⟩
              clear hsb hse hxs htb2 o1 o2 o3 hpsz hbsz hesz IHb HX
              go_wp2
              go_region_held3 (fun W => W.cell? ⟨wr.heap.size, 4, none⟩ = some (.string fr) ∧ W.cell? ⟨wr.heap.size, 11, none⟩ = some (.slice pb nb cb) ∧ W.cell? ⟨wr.heap.size, 12, none⟩ = some (.slice pe ne ce)) (exact HSB.out _ (by (repeat (first | assumption | exact Kept.refl _ | apply Kept.drew | apply Kept.alloc)))) (first
                | (go_at_call 24; (with_reducible refine (HXX.out _ ?_).mono ?_); (repeat (first | assumption | exact Kept.refl _ | apply Kept.drew | apply Kept.alloc)); rintro e1 w3 ⟨rfl, hk3⟩)
                | fail)
              all_goals
                have g12 := (HSB.out w3 hk3).2.2
                have f2 := IHe.out w3 ((Kept.drew (Kept.alloc (Kept.refl wr) _)).trans hk3)
                have HK3 : Hid (Kept wr w3) := (Kept.drew (Kept.alloc (Kept.refl wr) _)).trans hk3
                clear hk3 IHe
                go_wp2_with (go_at_call 24; (with_reducible refine f2.mono ?_); clear f2; rintro e1 w4 ⟨rfl, k4⟩; have HK4 : Hid (Kept wr w4) := HK3.out.trans k4; clear k4)
                refine Handed.intro g' (Nat.lt_succ_self g') (hJ _ _ _ ?_)
                · obtain ⟨r', q1, q2, q3, q4, q5, q6, q7, q8, q9⟩ := HREL.out _ _ (by rw [pk4y _ _ _ _ _ _ _ _ (HE.out)]) HK4.out
                  exact ⟨_, rfl, rfl, i + 1, r', _, rfl, rfl, rfl, (show Value.int .i64 ((i : Int) + 1) = .int .i64 ((i + 1 : Nat) : Int) by go_num), q1, q2, q3, q4, q5, q6, q7, q8, q9⟩
          by_cases c5 : k = 5
          · subst c5
            have b1 : ¬ 9223372036854775807 < (⟨#[119, 104, 105, 108, 101, 32]⟩ : ByteArray).size + (fr : ByteArray).size := by simp only [lsz, List.length_cons, List.length_nil]; omega
            have c1 : ¬ 9223372036854775807 < 6 + fr.size := by omega
            have b2 : ¬ 9223372036854775807 < (⟨#[119, 104, 105, 108, 101, 32]⟩ ++ fr : ByteArray).size + (⟨#[32, 123, 10]⟩ : ByteArray).size := by simp only [ByteArray.size_append, lsz, List.length_cons, List.length_nil]; omega
            have c2 : ¬ 9223372036854775807 < 6 + fr.size + 3 := by omega
            have b3 : ¬ 9223372036854775807 < (⟨#[119, 104, 105, 108, 101, 32]⟩ ++ fr ++ ⟨#[32, 123, 10]⟩ : ByteArray).size + (pr (d + 1) bo : ByteArray).size := by simp only [ByteArray.size_append, lsz, List.length_cons, List.length_nil]; omega
            have c3 : ¬ 9223372036854775807 < 6 + fr.size + 3 + (pr (d + 1) bo).size := by omega
            have b4 : ¬ 9223372036854775807 < (⟨#[119, 104, 105, 108, 101, 32]⟩ ++ fr ++ ⟨#[32, 123, 10]⟩ ++ pr (d + 1) bo : ByteArray).size + (tb d : ByteArray).size := by simp only [ByteArray.size_append, lsz, List.length_cons, List.length_nil]; omega
            have c4 : ¬ 9223372036854775807 < 6 + fr.size + 3 + (pr (d + 1) bo).size + (tb d).size := by omega
            have b5 : ¬ 9223372036854775807 < (⟨#[119, 104, 105, 108, 101, 32]⟩ ++ fr ++ ⟨#[32, 123, 10]⟩ ++ pr (d + 1) bo ++ tb d : ByteArray).size + (⟨#[125]⟩ : ByteArray).size := by simp only [ByteArray.size_append, lsz, List.length_cons, List.length_nil]; omega
            have c5 : ¬ 9223372036854775807 < 6 + fr.size + 3 + (pr (d + 1) bo).size + (tb d).size + 1 := by omega
            have t0 : ¬ 9223372036854775807 < (tb d : ByteArray).size + ((⟨#[119, 104, 105, 108, 101, 32]⟩ ++ fr ++ ⟨#[32, 123, 10]⟩ ++ pr (d + 1) bo ++ tb d ++ ⟨#[125]⟩) : ByteArray).size := by simp only [ByteArray.size_append, lsz, List.length_cons, List.length_nil]; omega
            have t1 : ¬ 9223372036854775807 < (tb d ++ (⟨#[119, 104, 105, 108, 101, 32]⟩ ++ fr ++ ⟨#[32, 123, 10]⟩ ++ pr (d + 1) bo ++ tb d ++ ⟨#[125]⟩) : ByteArray).size + (⟨#[10]⟩ : ByteArray).size := by simp only [ByteArray.size_append, lsz, List.length_cons, List.length_nil]; omega
            have t2 : ¬ 9223372036854775807 < (pre : ByteArray).size + ((tb d ++ (⟨#[119, 104, 105, 108, 101, 32]⟩ ++ fr ++ ⟨#[32, 123, 10]⟩ ++ pr (d + 1) bo ++ tb d ++ ⟨#[125]⟩) ++ ⟨#[10]⟩) : ByteArray).size := by simp only [ByteArray.size_append, lsz, List.length_cons, List.length_nil]; omega
            have HXX : Hid (∀ W, Kept ((wr.alloc (.cells #[.int .i64 5, .int .i64 pos, .string tz, .string fd, .string fr, .int .i64 e.k, .string e.a, .string e.b, .int .i64 e.op, .int .i64 e.n, .slice pa na ca, .slice pb nb cb, .slice pe ne ce] 67)).drew) W → Calls Tryd.prog 24 #[.slice pb nb cb, .int .i64 ((d : Int) + 1)] W fun x w' => x = .returned (.string (pr (d + 1) bo)) ∧ Kept ((wr.alloc (.cells #[.int .i64 5, .int .i64 pos, .string tz, .string fd, .string fr, .int .i64 e.k, .string e.a, .string e.b, .int .i64 e.op, .int .i64 e.n, .slice pa na ca, .slice pb nb cb, .slice pe ne ce] 67)).drew) w') := fun W hW => (IHb.out W ((Kept.drew (Kept.alloc (Kept.refl wr) _)).trans hW)).mono fun _ _ ⟨a1, a2⟩ => ⟨a1, hW.trans a2⟩
            have HSB : Hid (∀ W, Kept ((wr.alloc (.cells #[.int .i64 5, .int .i64 pos, .string tz, .string fd, .string fr, .int .i64 e.k, .string e.a, .string e.b, .int .i64 e.op, .int .i64 e.n, .slice pa na ca, .slice pb nb cb, .slice pe ne ce] 67)).drew) W → W.cell? ⟨wr.heap.size, 4, none⟩ = some (.string fr) ∧ W.cell? ⟨wr.heap.size, 11, none⟩ = some (.slice pb nb cb)) := fun W hW => by
              have hb : W.heap[wr.heap.size]? = some (.cells #[.int .i64 5, .int .i64 pos, .string tz, .string fd, .string fr, .int .i64 e.k, .string e.a, .string e.b, .int .i64 e.op, .int .i64 e.n, .slice pa na ca, .slice pb nb cb, .slice pe ne ce] 67) := hW.block (alloc_at wr _)
              exact ⟨by rw [cell_of_row _ wr.heap.size 4 _ _ _ hb]; rfl, by rw [cell_of_row _ wr.heap.size 11 _ _ _ hb]; rfl⟩
            clear hsb hse hxs htb2 o1 o2 o3 hpsz hbsz hesz IHb HX
            go_wp2
            go_region_held3 (fun W => W.cell? ⟨wr.heap.size, 4, none⟩ = some (.string fr) ∧ W.cell? ⟨wr.heap.size, 11, none⟩ = some (.slice pb nb cb)) (exact HSB.out _ (by (repeat (first | assumption | exact Kept.refl _ | apply Kept.drew | apply Kept.alloc)))) (first
              | (go_at_call 24; (with_reducible refine (HXX.out _ ?_).mono ?_); (repeat (first | assumption | exact Kept.refl _ | apply Kept.drew | apply Kept.alloc)); rintro e1 w3 ⟨rfl, hk3⟩)
              | fail)
            all_goals
              have HK3 : Hid (Kept wr w3) := (Kept.drew (Kept.alloc (Kept.refl wr) _)).trans hk3
              clear hk3
              go_wp2
              refine Handed.intro g' (Nat.lt_succ_self g') (hJ _ _ _ ?_)
              · obtain ⟨r', q1, q2, q3, q4, q5, q6, q7, q8, q9⟩ := HREL.out _ _ (by rw [pk5]) HK3.out
                exact ⟨_, rfl, rfl, i + 1, r', _, rfl, rfl, rfl, (show Value.int .i64 ((i : Int) + 1) = .int .i64 ((i + 1 : Nat) : Int) by go_num), q1, q2, q3, q4, q5, q6, q7, q8, q9⟩
          by_cases c6 : k = 6
          · subst c6
            have b1 : ¬ 9223372036854775807 < (⟨#[108, 111, 99, 107, 32]⟩ : ByteArray).size + (fr : ByteArray).size := by simp only [lsz, List.length_cons, List.length_nil]; omega
            have c1 : ¬ 9223372036854775807 < 5 + fr.size := by omega
            have b2 : ¬ 9223372036854775807 < (⟨#[108, 111, 99, 107, 32]⟩ ++ fr : ByteArray).size + (⟨#[59]⟩ : ByteArray).size := by simp only [ByteArray.size_append, lsz, List.length_cons, List.length_nil]; omega
            have c2 : ¬ 9223372036854775807 < 5 + fr.size + 1 := by omega
            have t0 : ¬ 9223372036854775807 < (tb d : ByteArray).size + ((⟨#[108, 111, 99, 107, 32]⟩ ++ fr ++ ⟨#[59]⟩) : ByteArray).size := by simp only [ByteArray.size_append, lsz, List.length_cons, List.length_nil]; omega
            have t1 : ¬ 9223372036854775807 < (tb d ++ (⟨#[108, 111, 99, 107, 32]⟩ ++ fr ++ ⟨#[59]⟩) : ByteArray).size + (⟨#[10]⟩ : ByteArray).size := by simp only [ByteArray.size_append, lsz, List.length_cons, List.length_nil]; omega
            have t2 : ¬ 9223372036854775807 < (pre : ByteArray).size + ((tb d ++ (⟨#[108, 111, 99, 107, 32]⟩ ++ fr ++ ⟨#[59]⟩) ++ ⟨#[10]⟩) : ByteArray).size := by simp only [ByteArray.size_append, lsz, List.length_cons, List.length_nil]; omega
            clear hsb hse hxs htb2 o1 o2 o3 hpsz hbsz hesz IHb IHe HX
            go_wp2
            refine Handed.intro g' (Nat.lt_succ_self g') (hJ _ _ _ ?_)
            · obtain ⟨r', q1, q2, q3, q4, q5, q6, q7, q8, q9⟩ := HREL.out _ _ (by rw [pk6]) (Kept.drew (Kept.alloc (Kept.refl wr) _))
              exact ⟨_, rfl, rfl, i + 1, r', _, rfl, rfl, rfl, (show Value.int .i64 ((i : Int) + 1) = .int .i64 ((i + 1 : Nat) : Int) by go_num), q1, q2, q3, q4, q5, q6, q7, q8, q9⟩
          by_cases c7 : k = 7
          · subst c7
            have b1 : ¬ 9223372036854775807 < (⟨#[117, 110, 108, 111, 99, 107, 32]⟩ : ByteArray).size + (fr : ByteArray).size := by simp only [lsz, List.length_cons, List.length_nil]; omega
            have c1 : ¬ 9223372036854775807 < 7 + fr.size := by omega
            have b2 : ¬ 9223372036854775807 < (⟨#[117, 110, 108, 111, 99, 107, 32]⟩ ++ fr : ByteArray).size + (⟨#[59]⟩ : ByteArray).size := by simp only [ByteArray.size_append, lsz, List.length_cons, List.length_nil]; omega
            have c2 : ¬ 9223372036854775807 < 7 + fr.size + 1 := by omega
            have t0 : ¬ 9223372036854775807 < (tb d : ByteArray).size + ((⟨#[117, 110, 108, 111, 99, 107, 32]⟩ ++ fr ++ ⟨#[59]⟩) : ByteArray).size := by simp only [ByteArray.size_append, lsz, List.length_cons, List.length_nil]; omega
            have t1 : ¬ 9223372036854775807 < (tb d ++ (⟨#[117, 110, 108, 111, 99, 107, 32]⟩ ++ fr ++ ⟨#[59]⟩) : ByteArray).size + (⟨#[10]⟩ : ByteArray).size := by simp only [ByteArray.size_append, lsz, List.length_cons, List.length_nil]; omega
            have t2 : ¬ 9223372036854775807 < (pre : ByteArray).size + ((tb d ++ (⟨#[117, 110, 108, 111, 99, 107, 32]⟩ ++ fr ++ ⟨#[59]⟩) ++ ⟨#[10]⟩) : ByteArray).size := by simp only [ByteArray.size_append, lsz, List.length_cons, List.length_nil]; omega
            clear hsb hse hxs htb2 o1 o2 o3 hpsz hbsz hesz IHb IHe HX
            go_wp2
            refine Handed.intro g' (Nat.lt_succ_self g') (hJ _ _ _ ?_)
            · obtain ⟨r', q1, q2, q3, q4, q5, q6, q7, q8, q9⟩ := HREL.out _ _ (by rw [pk7]) (Kept.drew (Kept.alloc (Kept.refl wr) _))
              exact ⟨_, rfl, rfl, i + 1, r', _, rfl, rfl, rfl, (show Value.int .i64 ((i : Int) + 1) = .int .i64 ((i + 1 : Nat) : Int) by go_num), q1, q2, q3, q4, q5, q6, q7, q8, q9⟩
          by_cases c8 : k = 8
          · subst c8
            have b1 : ¬ 9223372036854775807 < (⟨#[115, 112, 97, 119, 110, 32]⟩ : ByteArray).size + (ex e : ByteArray).size := by simp only [lsz, List.length_cons, List.length_nil]; omega
            have c1 : ¬ 9223372036854775807 < 6 + (ex e).size := by omega
            have b2 : ¬ 9223372036854775807 < (⟨#[115, 112, 97, 119, 110, 32]⟩ ++ ex e : ByteArray).size + (⟨#[59]⟩ : ByteArray).size := by simp only [ByteArray.size_append, lsz, List.length_cons, List.length_nil]; omega
            have c2 : ¬ 9223372036854775807 < 6 + (ex e).size + 1 := by omega
            have t0 : ¬ 9223372036854775807 < (tb d : ByteArray).size + ((⟨#[115, 112, 97, 119, 110, 32]⟩ ++ ex e ++ ⟨#[59]⟩) : ByteArray).size := by simp only [ByteArray.size_append, lsz, List.length_cons, List.length_nil]; omega
            have t1 : ¬ 9223372036854775807 < (tb d ++ (⟨#[115, 112, 97, 119, 110, 32]⟩ ++ ex e ++ ⟨#[59]⟩) : ByteArray).size + (⟨#[10]⟩ : ByteArray).size := by simp only [ByteArray.size_append, lsz, List.length_cons, List.length_nil]; omega
            have t2 : ¬ 9223372036854775807 < (pre : ByteArray).size + ((tb d ++ (⟨#[115, 112, 97, 119, 110, 32]⟩ ++ ex e ++ ⟨#[59]⟩) ++ ⟨#[10]⟩) : ByteArray).size := by simp only [ByteArray.size_append, lsz, List.length_cons, List.length_nil]; omega
            have f := HX.out ((wr.alloc (.cells #[.int .i64 8, .int .i64 pos, .string tz, .string fd, .string fr, .int .i64 e.k, .string e.a, .string e.b, .int .i64 e.op, .int .i64 e.n, .slice pa na ca, .slice pb nb cb, .slice pe ne ce] 67)).drew) (by (repeat (first | assumption | exact Kept.refl _ | apply Kept.drew | apply Kept.alloc)))
            clear hsb hse hxs htb2 o1 o2 o3 hpsz hbsz hesz IHb IHe HX
            go_wp2_with (go_at_call 11; (with_reducible refine f.mono ?_); clear f; rintro e1 w3 ⟨rfl, k3⟩; have HK3 : Hid (Kept wr w3) := (Kept.drew (Kept.alloc (Kept.refl wr) _)).trans k3; clear k3)
            refine Handed.intro g' (Nat.lt_succ_self g') (hJ _ _ _ ?_)
            · obtain ⟨r', q1, q2, q3, q4, q5, q6, q7, q8, q9⟩ := HREL.out _ _ (by rw [pk8]) HK3.out
              exact ⟨_, rfl, rfl, i + 1, r', _, rfl, rfl, rfl, (show Value.int .i64 ((i : Int) + 1) = .int .i64 ((i + 1 : Nat) : Int) by go_num), q1, q2, q3, q4, q5, q6, q7, q8, q9⟩
          by_cases c9 : k = 9
          · subst c9
            have b1 : ¬ 9223372036854775807 < (ex e : ByteArray).size + (⟨#[59]⟩ : ByteArray).size := by simp only [lsz, List.length_cons, List.length_nil]; omega
            have c1 : ¬ 9223372036854775807 < (ex e).size + 1 := by omega
            have t0 : ¬ 9223372036854775807 < (tb d : ByteArray).size + ((ex e ++ ⟨#[59]⟩) : ByteArray).size := by simp only [ByteArray.size_append, lsz, List.length_cons, List.length_nil]; omega
            have t1 : ¬ 9223372036854775807 < (tb d ++ (ex e ++ ⟨#[59]⟩) : ByteArray).size + (⟨#[10]⟩ : ByteArray).size := by simp only [ByteArray.size_append, lsz, List.length_cons, List.length_nil]; omega
            have t2 : ¬ 9223372036854775807 < (pre : ByteArray).size + ((tb d ++ (ex e ++ ⟨#[59]⟩) ++ ⟨#[10]⟩) : ByteArray).size := by simp only [ByteArray.size_append, lsz, List.length_cons, List.length_nil]; omega
            have f := HX.out ((wr.alloc (.cells #[.int .i64 9, .int .i64 pos, .string tz, .string fd, .string fr, .int .i64 e.k, .string e.a, .string e.b, .int .i64 e.op, .int .i64 e.n, .slice pa na ca, .slice pb nb cb, .slice pe ne ce] 67)).drew) (by (repeat (first | assumption | exact Kept.refl _ | apply Kept.drew | apply Kept.alloc)))
            clear hsb hse hxs htb2 o1 o2 o3 hpsz hbsz hesz IHb IHe HX
            go_wp2_with (go_at_call 11; (with_reducible refine f.mono ?_); clear f; rintro e1 w3 ⟨rfl, k3⟩; have HK3 : Hid (Kept wr w3) := (Kept.drew (Kept.alloc (Kept.refl wr) _)).trans k3; clear k3)
            refine Handed.intro g' (Nat.lt_succ_self g') (hJ _ _ _ ?_)
            · obtain ⟨r', q1, q2, q3, q4, q5, q6, q7, q8, q9⟩ := HREL.out _ _ (by rw [pk9]) HK3.out
              exact ⟨_, rfl, rfl, i + 1, r', _, rfl, rfl, rfl, (show Value.int .i64 ((i : Int) + 1) = .int .i64 ((i + 1 : Nat) : Int) by go_num), q1, q2, q3, q4, q5, q6, q7, q8, q9⟩
          by_cases c10 : k = 10
          · subst c10
            by_cases cf : fr = ⟨#[]⟩
            · subst cf
              have b1 : ¬ 9223372036854775807 < (⟨#[114, 101, 116, 117, 114, 110, 32]⟩ : ByteArray).size + (⟨#[]⟩ : ByteArray).size := by simp only [lsz, List.length_cons, List.length_nil]; omega
              have c1 : ¬ 9223372036854775807 < 7 + 0 := by omega
              have b2 : ¬ 9223372036854775807 < (⟨#[114, 101, 116, 117, 114, 110, 32]⟩ ++ ⟨#[]⟩ : ByteArray).size + (⟨#[59]⟩ : ByteArray).size := by simp only [ByteArray.size_append, lsz, List.length_cons, List.length_nil]; omega
              have c2 : ¬ 9223372036854775807 < 7 + 0 + 1 := by omega
              have t0 : ¬ 9223372036854775807 < (tb d : ByteArray).size + ((⟨#[114, 101, 116, 117, 114, 110, 59]⟩) : ByteArray).size := by simp only [lsz, List.length_cons, List.length_nil]; omega
              have t1 : ¬ 9223372036854775807 < (tb d ++ (⟨#[114, 101, 116, 117, 114, 110, 59]⟩) : ByteArray).size + (⟨#[10]⟩ : ByteArray).size := by simp only [ByteArray.size_append, lsz, List.length_cons, List.length_nil]; omega
              have t2 : ¬ 9223372036854775807 < (pre : ByteArray).size + ((tb d ++ (⟨#[114, 101, 116, 117, 114, 110, 59]⟩) ++ ⟨#[10]⟩) : ByteArray).size := by simp only [ByteArray.size_append, lsz, List.length_cons, List.length_nil]; omega
              clear hsb hse hxs htb2 o1 o2 o3 hpsz hbsz hesz IHb IHe HX
              go_wp2
              refine Handed.intro g' (Nat.lt_succ_self g') (hJ _ _ _ ?_)
              · obtain ⟨r', q1, q2, q3, q4, q5, q6, q7, q8, q9⟩ := HREL.out _ _ (by rw [pk10n]) (Kept.drew (Kept.alloc (Kept.refl wr) _))
                exact ⟨_, rfl, rfl, i + 1, r', _, rfl, rfl, rfl, (show Value.int .i64 ((i : Int) + 1) = .int .i64 ((i + 1 : Nat) : Int) by go_num), q1, q2, q3, q4, q5, q6, q7, q8, q9⟩
            · have hq := not_empty cf
              have HF : Hid (fr ≠ ⟨#[]⟩) := cf
              clear cf
              have b1 : ¬ 9223372036854775807 < (⟨#[114, 101, 116, 117, 114, 110, 32]⟩ : ByteArray).size + (fr : ByteArray).size := by simp only [lsz, List.length_cons, List.length_nil]; omega
              have c1 : ¬ 9223372036854775807 < 7 + fr.size := by omega
              have b2 : ¬ 9223372036854775807 < (⟨#[114, 101, 116, 117, 114, 110, 32]⟩ ++ fr : ByteArray).size + (⟨#[59]⟩ : ByteArray).size := by simp only [ByteArray.size_append, lsz, List.length_cons, List.length_nil]; omega
              have c2 : ¬ 9223372036854775807 < 7 + fr.size + 1 := by omega
              have t0 : ¬ 9223372036854775807 < (tb d : ByteArray).size + ((⟨#[114, 101, 116, 117, 114, 110, 32]⟩ ++ fr ++ ⟨#[59]⟩) : ByteArray).size := by simp only [ByteArray.size_append, lsz, List.length_cons, List.length_nil]; omega
              have t1 : ¬ 9223372036854775807 < (tb d ++ (⟨#[114, 101, 116, 117, 114, 110, 32]⟩ ++ fr ++ ⟨#[59]⟩) : ByteArray).size + (⟨#[10]⟩ : ByteArray).size := by simp only [ByteArray.size_append, lsz, List.length_cons, List.length_nil]; omega
              have t2 : ¬ 9223372036854775807 < (pre : ByteArray).size + ((tb d ++ (⟨#[114, 101, 116, 117, 114, 110, 32]⟩ ++ fr ++ ⟨#[59]⟩) ++ ⟨#[10]⟩) : ByteArray).size := by simp only [ByteArray.size_append, lsz, List.length_cons, List.length_nil]; omega
              clear hsb hse hxs htb2 o1 o2 o3 hpsz hbsz hesz IHb IHe HX
              go_wp2
              refine Handed.intro g' (Nat.lt_succ_self g') (hJ _ _ _ ?_)
              · obtain ⟨r', q1, q2, q3, q4, q5, q6, q7, q8, q9⟩ := HREL.out _ _ (by rw [pk10y _ _ _ _ _ _ _ _ (HF.out)]) (Kept.drew (Kept.alloc (Kept.refl wr) _))
                exact ⟨_, rfl, rfl, i + 1, r', _, rfl, rfl, rfl, (show Value.int .i64 ((i : Int) + 1) = .int .i64 ((i + 1 : Nat) : Int) by go_num), q1, q2, q3, q4, q5, q6, q7, q8, q9⟩
          have HO : Hid (¬ (k = 1 ∨ k = 2 ∨ k = 3 ∨ k = 4 ∨ k = 5 ∨ k = 6 ∨ k = 7 ∨ k = 8 ∨ k = 9 ∨ k = 10)) := by show ¬ _; omega
          have t0 : ¬ 9223372036854775807 < (tb d : ByteArray).size + ((⟨#[115, 107, 105, 112, 59]⟩) : ByteArray).size := by simp only [lsz, List.length_cons, List.length_nil]; omega
          have t1 : ¬ 9223372036854775807 < (tb d ++ (⟨#[115, 107, 105, 112, 59]⟩) : ByteArray).size + (⟨#[10]⟩ : ByteArray).size := by simp only [ByteArray.size_append, lsz, List.length_cons, List.length_nil]; omega
          have t2 : ¬ 9223372036854775807 < (pre : ByteArray).size + ((tb d ++ (⟨#[115, 107, 105, 112, 59]⟩) ++ ⟨#[10]⟩) : ByteArray).size := by simp only [ByteArray.size_append, lsz, List.length_cons, List.length_nil]; omega
          clear hsb hse hxs htb2 o1 o2 o3 hpsz hbsz hesz IHb IHe HX
          go_wp2
          refine Handed.intro g' (Nat.lt_succ_self g') (hJ _ _ _ ?_)
          · obtain ⟨r', q1, q2, q3, q4, q5, q6, q7, q8, q9⟩ := HREL.out _ _ (by rw [pk0 _ _ _ _ _ _ _ _ _ (HO.out)]) (Kept.drew (Kept.alloc (Kept.refl wr) _))
            exact ⟨_, rfl, rfl, i + 1, r', _, rfl, rfl, rfl, (show Value.int .i64 ((i : Int) + 1) = .int .i64 ((i + 1 : Nat) : Int) by go_num), q1, q2, q3, q4, q5, q6, q7, q8, q9⟩
end Go.Proofs.YtgdafolidifdoaaDoor.Tp
