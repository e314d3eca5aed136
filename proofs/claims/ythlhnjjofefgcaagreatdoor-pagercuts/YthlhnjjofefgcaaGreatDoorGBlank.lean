/- The walk of the law on blank disks. Conditions: fates are in memory that was there, and take at most 2^47 bytes; the library's table is laid. -/
import Derived.Test.YthlhnjjofefgcaaGreatDoorGWalkP
import Derived.Test.YthlhnjjofefgcaaGreatDoorGCut
import Derived.Test.YthlhnjjofefgcaaGreatDoorGWalkN
namespace Go.Proofs.YthlhnjjofefgcaaGreatDoor.G
open Go.ChangeShapes Go.WideShapes Go.ChangeAt Go.RowKit
open D (Dk Ok DiskAt Sec Wr Ct CutsAt FatesAt whole)
open P (bs supL Sup supP Small)

theorem cut_one {B : Nat} {w : World} {g : Nat} {x : Int} {vf : Value} {l : List Int} (hg : w.heap[g]? = some (.cells #[.int .i64 x, vf] 48)) (h : FatesAt B w vf l) : CutsAt B w (.slice (some ⟨g, 0, none⟩) 1 1) [⟨x, l⟩] := by
  refine ⟨_, _, rfl, Nat.le_refl _, by unfold maxLen; omega, fun j hj => ?_⟩
  have hj0 : j = 0 := by simpa using hj
  subst hj0
  exact ⟨g, 0, vf, rfl, .inr ⟨_, _, _, hg, D.calm48⟩, by rw [cell_of_row w g _ _ _ _ hg]; rfl, by rw [cell_of_row w g _ _ _ _ hg]; rfl, h⟩

/-- A disk that is formatted once more. -/
theorem fmt_again {d : Dk} (h : Flu d) (hc : d.cuts = []) (h2 : 2 ≤ d.secs.length) : ∃ d5, fmtd d = (d5, 0) ∧ Flu d5 ∧ d5.cuts = [] ∧ d5.secs.length = d.secs.length ∧ d5.secs[0]? = some ⟨zs, false, 0⟩ ∧ d5.secs[1]? = some ⟨st1, false, 0⟩ := by
  obtain ⟨d1, d', e, w1, w2⟩ := fmtd_live h ⟨h.up, by intro c r e; rw [hc] at e; cases e⟩ h2
  refine ⟨d', e, w2.flu, by rw [w2.cuts, w1.cuts, hc], by rw [w2.len, w1.len], ?_, w2.own ⟨1, st1⟩ (by simp [st1])⟩
  rw [w2.oth 0 (by intro x hx; simp at hx; subst hx; decide)]
  exact w1.own ⟨0, zs⟩ (by simp [zs])

/-- Whatever is opened: the first state. -/
def Yes (d : Dk) : Prop := ∀ (W : World) (B b g : Nat), DiskAt B W b g d → B ≤ W.heap.size → Calls Tryz.prog 15 #[.pointer (some ⟨b, 0, none⟩)] W fun e w' => ∃ p q, e = .returned (.tuple #[.pointer (some ⟨p, 0, none⟩), .int .i64 0]) ∧ GAt B w' p b g q ∧ q.gen = 1 ∧ q.root = -1 ∧ On B W w'
/-- Whatever is opened: an error. -/
def No (d : Dk) (x : Int) (d' : Dk) : Prop := ∀ (W : World) (B b g : Nat), DiskAt B W b g d → B ≤ W.heap.size → Calls Tryz.prog 15 #[.pointer (some ⟨b, 0, none⟩)] W fun e w' => e = .returned (.tuple #[.pointer none, .int .i64 x]) ∧ DiskAt B w' b g d' ∧ D.On B W w'

theorem yes_of {d : Dk} {m : Nat} (ok : Ok m d) (hm : m < 49000) (hf : Flu d) (hl : Liv d 2) (h2 : 2 ≤ d.secs.length) (h64 : d.secs.length ≤ 64) {s0 : Sec} (e0 : d.secs[0]? = some s0) (k0 : Sd (sayS s0).1 0 none) (e1 : d.secs[1]? = some ⟨st1, false, 0⟩) : Yes d := fun W B b g k kB =>
  (open_flu k kB ok hm hf hl h2 h64 e0 e1 (o0 := none) (o1 := some (1, -1)) k0 (sd_state sup11 rfl) (1, -1) rfl).mono (by
    rintro e w' ⟨p, rfl, h1, h2⟩
    exact ⟨p, _, rfl, h1, rfl, rfl, h2⟩)

theorem say_fine (A : ByteArray) : sayS ⟨A, false, 0⟩ = (A, 0) := rfl
theorem sd_blank (b : Bool) (a : Nat) : Sd (sayS ⟨zs, b, 0⟩).1 a none := by
  cases b
  · exact sd_zeros a
  · exact sd_empty a

theorem bl_open {d : Dk} {n m : Nat} (h : Bl n d) (hd : d.dead = false) (ok : Ok m d) (hm : m < 49000) (h2 : 2 ≤ n) (h64 : n ≤ 64) : Yes d ∨ No d 81 d.begin.begin := by
  have hf : Flu d := ⟨h.waits, h.last, hd⟩
  have hl : Liv d 2 := ⟨hd, by intro c r e; rw [h.cuts] at e; cases e⟩
  obtain ⟨b0, e0⟩ := h.s0
  obtain ⟨b1, e1 | e1⟩ := h.s1
  · exact .inr fun W B b g k kB => open_none k kB ok hm hf hl e0 e1 (sd_blank b0 0) (sd_blank b1 1)
  · cases b1
    · exact .inl (yes_of ok hm hf hl (by rw [h.len]; exact h2) (by rw [h.len]; exact h64) e0 (sd_blank b0 0) e1)
    · exact .inr fun W B b g k kB => open_none k kB ok hm hf hl e0 e1 (sd_blank b0 0) (sd_empty 1)

theorem up_of {d : Dk} {n : Nat} (h : Bl n d) (hd : d.dead = true) : Bl n d.up ∧ d.up.dead = false := by
  have e : d.up = { d with dead := false, since := 0 } := by simp [Dk.up, hd]
  rw [e]
  exact ⟨⟨h.waits, h.last, h.len, h.s0, h.s1, h.cuts⟩, rfl⟩

/-- How the law goes. -/
structure Plan (k : Nat) (c : Ct) (e1 : Int) (d1 : Dk) : Prop where
  fmt : fmtd (Dk.new 4 [c]) = (d1, e1)
  err : k < 5 → e1 = 40
  rest : Yes d1.up ∨ ∃ e2 d3 d5, (e2 = 81 ∨ e2 = 40) ∧ No d1.up e2 d3 ∧ fmtd d3.up = (d5, 0) ∧ Ok 20 d3.up ∧ Yes d5

theorem again {d3 : Dk} (h : Flu d3.up) (hc : d3.up.cuts = []) (hlen : d3.up.secs.length = 4) (ok : Ok 20 d3.up) : ∃ d5, fmtd d3.up = (d5, 0) ∧ Ok 20 d3.up ∧ Yes d5 := by
  obtain ⟨d5, e, f5, c5, l5, s0, s1⟩ := fmt_again h hc (by rw [hlen]; decide)
  have ok5 := fmtd_ok ok
  rw [e] at ok5
  exact ⟨d5, e, ok, yes_of ok5 (by decide) f5 ⟨f5.up, by intro c r e; rw [c5] at e; cases e⟩ (by rw [l5, hlen]; decide) (by rw [l5, hlen]; decide) s0 (sd_zeros 0) s1⟩

theorem plan (k : Nat) (hk : k < 8) (c : Ct) (hc : c.at_ = (k : Int)) : ∃ e1 d1, Plan k c e1 d1 := by
  have okn := fmtd_ok (D.new_ok 4 [c])
  by_cases h5 : k < 5
  · obtain ⟨d1, e, bl, dd⟩ := fmt_cut 4 (by decide) c k h5 hc
    rw [e] at okn
    have ok1 : Ok 5 d1.up := D.up_ok okn
    obtain ⟨bu, du⟩ := up_of bl dd
    refine ⟨40, d1, e, fun _ => rfl, ?_⟩
    rcases bl_open bu du ok1 (by decide) (by decide) (by decide) with y | nn
    · exact .inl y
    · refine .inr ⟨81, d1.up.begin.begin, ?_⟩
      have eu : d1.up.begin.begin.up = d1.up.begin.begin := by unfold Dk.up; rw [if_neg (by show ¬ d1.up.dead = true; rw [du]; decide)]
      obtain ⟨d5, e5, o5, y5⟩ := again (d3 := d1.up.begin.begin) (by rw [eu]; exact ⟨bu.waits, bu.last, du⟩) (by rw [eu]; exact bu.cuts) (by rw [eu]; exact bu.len) (by rw [eu]; exact Ok.mono (D.begin_ok (D.begin_ok ok1)) (by decide))
      exact ⟨d5, .inl rfl, nn, e5, o5, y5⟩
  · have lv : Liv (Dk.new 4 [c]) 5 := ⟨rfl, by intro c' r e; injection e with e _; subst e; rw [hc]; show ((0 + 5 : Nat) : Int) ≤ _; omega⟩
    obtain ⟨d1, e, fl, ln, s0, s1, cu, fa, si⟩ := fmt_new 4 (by decide) [c] lv
    rw [e] at okn
    have ok1 : Ok 5 d1 := okn
    have eu : d1.up = d1 := by unfold Dk.up; rw [if_neg (by rw [fl.up]; decide)]
    refine ⟨0, d1, e, fun h => absurd h h5, ?_⟩
    rw [eu]
    by_cases h7 : k = 7
    · exact .inl (yes_of ok1 (by decide) fl ⟨fl.up, by intro c' r e; rw [cu] at e; injection e with e _; subst e; rw [hc, si, h7]; decide⟩ (by rw [ln]; decide) (by rw [ln]; decide) s0 (sd_zeros 0) s1)
    · right
      by_cases h6 : k = 5
      · obtain ⟨d3, r0, lf, c3⟩ := read_fails fl cu (by rw [si, hc, h6]; decide) 0 (by rw [ln]; decide)
        have r0' : d1.read 0 = (d3, ⟨#[]⟩, 40) := r0
        have ok3 := read_ok' ok1 0
        rw [r0'] at ok3
        have eu3 : d3.up = { d3 with dead := false, since := 0 } := by simp [Dk.up, lf.dead]
        obtain ⟨d5, e5, o5, y5⟩ := again (d3 := d3) (by rw [eu3]; exact ⟨lf.waits, lf.last, rfl⟩) (by rw [eu3]; exact c3) (by rw [eu3]; show d3.secs.length = 4; rw [lf.len, ln]) (Ok.mono (D.up_ok ok3) (by decide))
        exact ⟨40, d3, d5, .inr rfl, fun W B b g k kB => open_B 40 (by decide) kB (committed_err0 k kB ok1 (by decide) r0' (by decide) (by decide)), e5, o5, y5⟩
      · have h66 : k = 6 := by omega
        have r0a := read_flu fl ⟨fl.up, by intro c' r e; rw [cu] at e; injection e with e _; subst e; rw [hc, si, h66]; decide⟩ s0
        rw [say_fine] at r0a
        have r0 : d1.read 0 = (d1.begin, (whole ⟨#[]⟩, 0)) := r0a
        obtain ⟨d3, r1, lf, c3⟩ := read_fails (d := d1.begin) (c := c) (begin_flu fl) cu (by show ¬ ((d1.since + 1 : Nat) : Int) < _; rw [si, hc, h66]; decide) 1 (by show 1 < d1.secs.length; rw [ln]; decide)
        have r1' : d1.begin.read 1 = (d3, ⟨#[]⟩, 40) := r1
        have ok3 := read_ok' (D.begin_ok ok1) 1
        rw [r1'] at ok3
        have eu3 : d3.up = { d3 with dead := false, since := 0 } := by simp [Dk.up, lf.dead]
        obtain ⟨d5, e5, o5, y5⟩ := again (d3 := d3) (by rw [eu3]; exact ⟨lf.waits, lf.last, rfl⟩) (by rw [eu3]; exact c3) (by rw [eu3]; show d3.secs.length = 4; rw [lf.len]; exact ln) (Ok.mono (D.up_ok ok3) (by decide))
        exact ⟨40, d3, d5, .inr rfl, fun W B b g k kB => open_B 40 (by decide) kB (committed_err1 k kB ok1 (by decide) r0 r1' (by decide) (by decide)), e5, o5, y5⟩

set_option maxRecDepth 100000 in
set_option maxHeartbeats 4000000 in
theorem blank_walk (x : Int) (vf : Value) (l : List Int) (w : World) (hL : S.Lds w) (hf : FatesAt w.heap.size w vf l) (hl : l.length * 8 ≤ 140737488355328) :
    Calls Tryz.prog 5 #[.agg #[.int .i64 x, vf]] w fun e w' => e = .returned (.bool true) ∧ D.Kept w w' := by
  obtain ⟨k, hk, ek⟩ := D.low 3 7 (by omega) (by decide) x
  have ek' : bits .and .i64 x 7 = (k : Int) := ek
  have hk8 : k < 8 := hk
  clear ek hk
  obtain ⟨pf, cf, rfl, _⟩ := hf.out
  obtain ⟨e1, d1, pl⟩ := plan k hk8 ⟨(k : Int), l⟩ rfl
  have hnew := fun (W : World) (g : Nat) (hK : D.Kept w W) (hg : W.heap[g]? = some (Obj.cells #[.int .i64 (k : Int), .slice pf l.length cf] 48)) =>
    D.new_walk (B := w.heap.size) (w := W) 4 (by omega) (cut_one hg (hf.on (hK.on (Nat.le_refl _)))) hK.size (by simp) (by intro c hc; simp at hc; subst hc; exact hl)
  have f24 : ∀ (W : World) (B b g : Nat), DiskAt B W b g (Dk.new 4 [⟨(k : Int), l⟩]) → B ≤ W.heap.size → Calls Tryz.prog 24 #[.pointer (some ⟨b, 0, none⟩)] W fun e w' => e = .returned (.int .i64 e1) ∧ DiskAt B w' b g d1 ∧ D.On B W w' := fun W B b g h1 h2 => by
    have := format_walk h1 h2 (D.new_ok 4 [⟨(k : Int), l⟩]) (by omega)
    rw [pl.fmt] at this
    exact this
  have hfd0 : ∀ (W : World) (x r : Int), (Instr.field 52 (.agg #[.int .u64 x, .int .i64 r]) 0).run Tryz.prog W = .ok (.int .u64 x) W := fun _ _ _ => by kernel_rfl
  have hfd1 : ∀ (W : World) (x r : Int), (Instr.field 52 (.agg #[.int .u64 x, .int .i64 r]) 1).run Tryz.prog W = .ok (.int .i64 r) W := fun _ _ _ => by kernel_rfl
  have herr := pl.err
  have hrest := pl.rest
  generalize Dk.new 4 [⟨(k : Int), l⟩] = dn at hnew f24
  clear pl
  have hcase : (k < 5 ∧ e1 = 40) ∨ ¬ k < 5 := by by_cases h : k < 5; exact .inl ⟨h, herr h⟩; exact .inr h
  clear herr
  rcases hrest with hy | ⟨e2, d3, d5, he2, hno, hf5, ok3, hy5⟩
  · rcases hcase with ⟨h5, rfl⟩ | h5
    all_goals
      go_enter Tryz.func5, Tryz.ntmps5
      go_wp2_with (first
        | (go_at_call 23; refine (hnew _ _ (((D.Kept.refl w).alloc _).alloc _) (D.two_new _ _ _)).mono ?_; rintro e w1 ⟨b, g, rfl, hD1, hk1⟩; obtain ⟨B1, hD1', hwB, hB1⟩ : ∃ B1, DiskAt B1 w1 b g dn ∧ w.heap.size ≤ B1 ∧ B1 ≤ w1.heap.size := ⟨_, hD1, (((D.Kept.refl w).alloc _).alloc _).size, hk1.size⟩; have hkw1 : D.Kept w w1 := (((D.Kept.refl w).alloc _).alloc _).trans hk1; have h8 := awake_walk w1 (lds_kept hL hkw1); clear hD1 hk1)
        | (go_at_call 8; (with_reducible refine h8.mono ?_); rintro e w2 ⟨rfl, hk2⟩; have hB2 := Nat.le_trans hB1 hk2.size; have h24 := f24 w2 B1 b g (hk2.dk hD1') hB2; have hkw2 := hkw1.trans hk2)
        | (go_at_call 24; (with_reducible refine h24.mono ?_); rintro e w3 ⟨rfl, hD3, o3⟩; have hB3 := Nat.le_trans hB2 o3.size; have h19 := D.up_walk hD3)
        | (go_at_call 19; (with_reducible refine h19.mono ?_); rintro e w4 ⟨rfl, hD4, o4⟩; have hB4 := Nat.le_trans hB3 o4.size; have h15 := hy w4 B1 b g hD4 hB4)
        | (go_at_call 15; (with_reducible refine h15.mono ?_); rintro e w5 ⟨p, q, rfl, hG5, hq1, hq2, n5⟩; have hst := state_walk hG5; rw [hq1, hq2] at hst)
        | (go_at_call 20; (with_reducible refine hst.mono ?_); rintro e w6 ⟨rfl, K6⟩; have hG6 : GAt B1 w6 p b g q := (by obtain ⟨a, u1, u2, kk⟩ := hG5.out; exact ⟨a, u1, u2, kk.kept K6⟩); have hst2 := state_walk hG6; rw [hq1, hq2] at hst2; clear hst)
        | (go_at_call 20; (with_reducible refine hst2.mono ?_); rintro e w7 ⟨rfl, K7⟩))
      go_ret
      have b5 : Below w.heap.size w w5 := ((hkw2.out.trans (o3.below.mono hwB)).trans (o4.below.mono hwB)).trans (n5.below.mono hwB)
      have b6 := b5.trans (K6.out.mono b5.size)
      exact ⟨rfl, ⟨b6.trans (K7.out.mono b6.size)⟩⟩
  · have he2' : ((e2 != 0) = true) := by rcases he2 with rfl | rfl <;> decide
    have f24b : ∀ (W : World) (B b g : Nat), DiskAt B W b g d3.up → B ≤ W.heap.size → Calls Tryz.prog 24 #[.pointer (some ⟨b, 0, none⟩)] W fun e w' => e = .returned (.int .i64 0) ∧ DiskAt B w' b g d5 ∧ D.On B W w' := fun W B b g h1 h2 => by
      have := format_walk h1 h2 ok3 (by omega)
      rw [hf5] at this
      exact this
    clear hf5 ok3
    rcases hcase with ⟨h5, rfl⟩ | h5 <;> rcases he2 with rfl | rfl
    all_goals
      go_enter Tryz.func5, Tryz.ntmps5
      go_wp2_with (first
        | (go_at_call 23; refine (hnew _ _ (((D.Kept.refl w).alloc _).alloc _) (D.two_new _ _ _)).mono ?_; rintro e w1 ⟨b, g, rfl, hD1, hk1⟩; obtain ⟨B1, hD1', hwB, hB1⟩ : ∃ B1, DiskAt B1 w1 b g dn ∧ w.heap.size ≤ B1 ∧ B1 ≤ w1.heap.size := ⟨_, hD1, (((D.Kept.refl w).alloc _).alloc _).size, hk1.size⟩; have hkw1 : D.Kept w w1 := (((D.Kept.refl w).alloc _).alloc _).trans hk1; have h8 := awake_walk w1 (lds_kept hL hkw1); clear hD1 hk1)
        | (go_at_call 8; (with_reducible refine h8.mono ?_); rintro e w2 ⟨rfl, hk2⟩; have hB2 := Nat.le_trans hB1 hk2.size; have h24 := f24 w2 B1 b g (hk2.dk hD1') hB2; have hkw2 := hkw1.trans hk2)
        | (go_at_call 24; (with_reducible refine h24.mono ?_); rintro e w3 ⟨rfl, hD3, o3⟩; have hB3 := Nat.le_trans hB2 o3.size; have h19 := D.up_walk hD3; clear h24)
        | (go_at_call 19; (with_reducible refine h19.mono ?_); rintro e w4 ⟨rfl, hD4, o4⟩; have hB4 := Nat.le_trans hB3 o4.size; have h15 := hno w4 B1 b g hD4 hB4; clear h19)
        | (go_at_call 15; (with_reducible refine h15.mono ?_); rintro e w5 ⟨rfl, hD5, o5⟩; have hB5 := Nat.le_trans hB4 o5.size; have i19 := D.up_walk hD5; clear h15)
        | (go_at_call 19; (with_reducible refine i19.mono ?_); rintro e w6 ⟨rfl, hD6, o6⟩; have hB6 := Nat.le_trans hB5 o6.size; have i24 := f24b w6 B1 b g hD6 hB6; clear i19)
        | (go_at_call 24; (with_reducible refine i24.mono ?_); rintro e w7 ⟨rfl, hD7, o7⟩; have hB7 := Nat.le_trans hB6 o7.size; have i15 := hy5 w7 B1 b g hD7 hB7; clear i24)
        | (go_at_call 15; (with_reducible refine i15.mono ?_); rintro e w8 ⟨p, q, rfl, hG8, hq1, hq2, n8⟩; have hst := state_walk hG8; rw [hq1, hq2] at hst; clear i15)
        | (go_at_call 20; (with_reducible refine hst.mono ?_); rintro e w9 ⟨rfl, K9⟩))
      go_ret
      have b4 : Below w.heap.size w w4 := (hkw2.out.trans (o3.below.mono hwB)).trans (o4.below.mono hwB)
      have b7 : Below w.heap.size w w7 := ((b4.trans (o5.below.mono hwB)).trans (o6.below.mono hwB)).trans (o7.below.mono hwB)
      have b8 := b7.trans (n8.below.mono hwB)
      exact ⟨rfl, ⟨b8.trans (K9.out.mono b8.size)⟩⟩
end Go.Proofs.YthlhnjjofefgcaaGreatDoor.G
