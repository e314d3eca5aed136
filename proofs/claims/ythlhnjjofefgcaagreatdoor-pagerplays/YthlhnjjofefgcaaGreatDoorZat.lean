/- Joined: GBlank GWalkG GCutsP GCuts GCutsW GPlayA. What is proved of the functions beneath PagerNone,PagerBlank,PagerCuts,PagerPlays. Conditions: those that each row names. -/
import Derived.Test.YthlhnjjofefgcaaGreatDoorZar
import Derived.BigQuiet
import Derived.OwnWalk
import Derived.Lib.SliceRun
import Derived.Deep.AppendLies
import Derived.Laws.AppendOwn
namespace Go.Proofs.YthlhnjjofefgcaaGreatDoor.G
open Go.ChangeShapes Go.WideShapes Go.ChangeAt Go.RowKit
open D (Dk Ok DiskAt Sec Wr Ct CutsAt FatesAt whole)
open P (bs supL Sup supP Small)

theorem cut_one {B : Nat} {w : World} {g : Nat} {x : Int} {vf : Value} {l : List Int} (hg : w.heap[g]? = some (.cells #[.int .i64 x, vf] 48)) (h : FatesAt B w vf l) : CutsAt B w (.slice (some ⟨g, 0, none⟩) 1 1) [⟨x, l⟩] := by
  refine ⟨_, _, rfl, Nat.le_refl _, by unfold maxLen; omega, fun j hj => ?_⟩
  have hj0 : j = 0 := by simpa using hj
  subst hj0
  exact ⟨g, 0, vf, rfl, .inr ⟨_, _, _, hg, D.calm48⟩, by rw [cell_of_row w g _ _ _ _ hg]; rfl, by rw [cell_of_row w g _ _ _ _ hg]; rfl, h⟩

theorem fmt_again {d : Dk} (h : Flu d) (hc : d.cuts = []) (h2 : 2 ≤ d.secs.length) : ∃ d5, fmtd d = (d5, 0) ∧ Flu d5 ∧ d5.cuts = [] ∧ d5.secs.length = d.secs.length ∧ d5.secs[0]? = some ⟨zs, false, 0⟩ ∧ d5.secs[1]? = some ⟨st1, false, 0⟩ := by
  obtain ⟨d1, d', e, w1, w2⟩ := fmtd_live h ⟨h.up, by intro c r e; rw [hc] at e; cases e⟩ h2
  refine ⟨d', e, w2.flu, by rw [w2.cuts, w1.cuts, hc], by rw [w2.len, w1.len], ?_, w2.own ⟨1, st1⟩ (by simp [st1])⟩
  rw [w2.oth 0 (by intro x hx; simp at hx; subst hx; decide)]
  exact w1.own ⟨0, zs⟩ (by simp [zs])

def Yes (d : Dk) : Prop := ∀ (W : World) (B b g : Nat), DiskAt B W b g d → B ≤ W.heap.size → Calls Tryz.prog 15 #[.pointer (some ⟨b, 0, none⟩)] W fun e w' => ∃ p q, e = .returned (.tuple #[.pointer (some ⟨p, 0, none⟩), .int .i64 0]) ∧ GAt B w' p b g q ∧ q.gen = 1 ∧ q.root = -1 ∧ On B W w'
def No (d : Dk) (x : Int) (d' : Dk) : Prop := ∀ (W : World) (B b g : Nat), DiskAt B W b g d → B ≤ W.heap.size → Calls Tryz.prog 15 #[.pointer (some ⟨b, 0, none⟩)] W fun e w' => e = .returned (.tuple #[.pointer none, .int .i64 x]) ∧ DiskAt B w' b g d' ∧ D.On B W w'

theorem yes_of {d : Dk} {m : Nat} (ok : Ok m d) (hm : m < 49000) (hf : Flu d) (hl : Liv d 2) (h2 : 2 ≤ d.secs.length) (h64 : d.secs.length ≤ 64) {s0 : Sec} (e0 : d.secs[0]? = some s0) (k0 : Sd (sayS s0).1 0 none) (e1 : d.secs[1]? = some ⟨st1, false, 0⟩) : Yes d := fun W B b g k kB =>
  (open_flu k kB ok hm hf hl h2 h64 e0 e1 (o0 := none) (o1 := some (1, -1)) k0 (sd_state sup11 rfl) (1, -1) rfl).mono (by
    rintro e w' ⟨p, rfl, h1, h2⟩
    exact ⟨p, _, rfl, h1, rfl, rfl, h2⟩)

theorem say_fine (A : ByteArray) : sayS ⟨A, false, 0⟩ = (A, 0) := rfl
theorem sd_blank (b : Bool) (a : Nat) : Sd (sayS ⟨zs, b, 0⟩).1 a none := by
  cases b
  · exact sd_zeros a
  · exact sd_empty a

theorem bl_open {d : Dk} {n m : Nat} (h : Bl n d) (hd : d.dead = false) (ok : Ok m d) (hm : m < 49000) (h2 : 2 ≤ n) (h64 : n ≤ 64) : Yes d ∨ No d 81 d.begin.begin := by
  have hf : Flu d := ⟨h.waits, h.last, hd⟩
  have hl : Liv d 2 := ⟨hd, by intro c r e; rw [h.cuts] at e; cases e⟩
  obtain ⟨b0, e0⟩ := h.s0
  obtain ⟨b1, e1 | e1⟩ := h.s1
  · exact .inr fun W B b g k kB => open_none k kB ok hm hf hl e0 e1 (sd_blank b0 0) (sd_blank b1 1)
  · cases b1
    · exact .inl (yes_of ok hm hf hl (by rw [h.len]; exact h2) (by rw [h.len]; exact h64) e0 (sd_blank b0 0) e1)
    · exact .inr fun W B b g k kB => open_none k kB ok hm hf hl e0 e1 (sd_blank b0 0) (sd_empty 1)

theorem up_of {d : Dk} {n : Nat} (h : Bl n d) (hd : d.dead = true) : Bl n d.up ∧ d.up.dead = false := by
  have e : d.up = { d with dead := false, since := 0 } := by simp [Dk.up, hd]
  rw [e]
  exact ⟨⟨h.waits, h.last, h.len, h.s0, h.s1, h.cuts⟩, rfl⟩

structure Plan (k : Nat) (c : Ct) (e1 : Int) (d1 : Dk) : Prop where
  fmt : fmtd (Dk.new 4 [c]) = (d1, e1)
  err : k < 5 → e1 = 40
  rest : Yes d1.up ∨ ∃ e2 d3 d5, (e2 = 81 ∨ e2 = 40) ∧ No d1.up e2 d3 ∧ fmtd d3.up = (d5, 0) ∧ Ok 20 d3.up ∧ Yes d5

theorem again {d3 : Dk} (h : Flu d3.up) (hc : d3.up.cuts = []) (hlen : d3.up.secs.length = 4) (ok : Ok 20 d3.up) : ∃ d5, fmtd d3.up = (d5, 0) ∧ Ok 20 d3.up ∧ Yes d5 := by
  obtain ⟨d5, e, f5, c5, l5, s0, s1⟩ := fmt_again h hc (by rw [hlen]; decide)
  have ok5 := fmtd_ok ok
  rw [e] at ok5
  exact ⟨d5, e, ok, yes_of ok5 (by decide) f5 ⟨f5.up, by intro c r e; rw [c5] at e; cases e⟩ (by rw [l5, hlen]; decide) (by rw [l5, hlen]; decide) s0 (sd_zeros 0) s1⟩

theorem plan (k : Nat) (hk : k < 8) (c : Ct) (hc : c.at_ = (k : Int)) : ∃ e1 d1, Plan k c e1 d1 := by
  have okn := fmtd_ok (D.new_ok 4 [c])
  by_cases h5 : k < 5
  · obtain ⟨d1, e, bl, dd⟩ := fmt_cut 4 (by decide) c k h5 hc
    rw [e] at okn
    have ok1 : Ok 5 d1.up := D.up_ok okn
    obtain ⟨bu, du⟩ := up_of bl dd
    refine ⟨40, d1, e, fun _ => rfl, ?_⟩
    rcases bl_open bu du ok1 (by decide) (by decide) (by decide) with y | nn
    · exact .inl y
    · refine .inr ⟨81, d1.up.begin.begin, ?_⟩
      have eu : d1.up.begin.begin.up = d1.up.begin.begin := by unfold Dk.up; rw [if_neg (by show ¬ d1.up.dead = true; rw [du]; decide)]
      obtain ⟨d5, e5, o5, y5⟩ := again (d3 := d1.up.begin.begin) (by rw [eu]; exact ⟨bu.waits, bu.last, du⟩) (by rw [eu]; exact bu.cuts) (by rw [eu]; exact bu.len) (by rw [eu]; exact Ok.mono (D.begin_ok (D.begin_ok ok1)) (by decide))
      exact ⟨d5, .inl rfl, nn, e5, o5, y5⟩
  · have lv : Liv (Dk.new 4 [c]) 5 := ⟨rfl, by intro c' r e; injection e with e _; subst e; rw [hc]; show ((0 + 5 : Nat) : Int) ≤ _; omega⟩
    obtain ⟨d1, e, fl, ln, s0, s1, cu, fa, si⟩ := fmt_new 4 (by decide) [c] lv
    rw [e] at okn
    have ok1 : Ok 5 d1 := okn
    have eu : d1.up = d1 := by unfold Dk.up; rw [if_neg (by rw [fl.up]; decide)]
    refine ⟨0, d1, e, fun h => absurd h h5, ?_⟩
    rw [eu]
    by_cases h7 : k = 7
    · exact .inl (yes_of ok1 (by decide) fl ⟨fl.up, by intro c' r e; rw [cu] at e; injection e with e _; subst e; rw [hc, si, h7]; decide⟩ (by rw [ln]; decide) (by rw [ln]; decide) s0 (sd_zeros 0) s1)
    · right
      by_cases h6 : k = 5
      · obtain ⟨d3, r0, lf, c3⟩ := read_fails fl cu (by rw [si, hc, h6]; decide) 0 (by rw [ln]; decide)
        have r0' : d1.read 0 = (d3, ⟨#[]⟩, 40) := r0
        have ok3 := read_ok' ok1 0
        rw [r0'] at ok3
        have eu3 : d3.up = { d3 with dead := false, since := 0 } := by simp [Dk.up, lf.dead]
        obtain ⟨d5, e5, o5, y5⟩ := again (d3 := d3) (by rw [eu3]; exact ⟨lf.waits, lf.last, rfl⟩) (by rw [eu3]; exact c3) (by rw [eu3]; show d3.secs.length = 4; rw [lf.len, ln]) (Ok.mono (D.up_ok ok3) (by decide))
        exact ⟨40, d3, d5, .inr rfl, fun W B b g k kB => open_B 40 (by decide) kB (committed_err0 k kB ok1 (by decide) r0' (by decide) (by decide)), e5, o5, y5⟩
      · have h66 : k = 6 := by omega
        have r0a := read_flu fl ⟨fl.up, by intro c' r e; rw [cu] at e; injection e with e _; subst e; rw [hc, si, h66]; decide⟩ s0
        rw [say_fine] at r0a
        have r0 : d1.read 0 = (d1.begin, (whole ⟨#[]⟩, 0)) := r0a
        obtain ⟨d3, r1, lf, c3⟩ := read_fails (d := d1.begin) (c := c) (begin_flu fl) cu (by show ¬ ((d1.since + 1 : Nat) : Int) < _; rw [si, hc, h66]; decide) 1 (by show 1 < d1.secs.length; rw [ln]; decide)
        have r1' : d1.begin.read 1 = (d3, ⟨#[]⟩, 40) := r1
        have ok3 := read_ok' (D.begin_ok ok1) 1
        rw [r1'] at ok3
        have eu3 : d3.up = { d3 with dead := false, since := 0 } := by simp [Dk.up, lf.dead]
        obtain ⟨d5, e5, o5, y5⟩ := again (d3 := d3) (by rw [eu3]; exact ⟨lf.waits, lf.last, rfl⟩) (by rw [eu3]; exact c3) (by rw [eu3]; show d3.secs.length = 4; rw [lf.len]; exact ln) (Ok.mono (D.up_ok ok3) (by decide))
        exact ⟨40, d3, d5, .inr rfl, fun W B b g k kB => open_B 40 (by decide) kB (committed_err1 k kB ok1 (by decide) r0 r1' (by decide) (by decide)), e5, o5, y5⟩

set_option maxRecDepth 100000 in
set_option maxHeartbeats 4000000 in
theorem blank_walk (x : Int) (vf : Value) (l : List Int) (w : World) (hL : S.Lds w) (hf : FatesAt w.heap.size w vf l) (hl : l.length * 8 ≤ 140737488355328) :
    Calls Tryz.prog 5 #[.agg #[.int .i64 x, vf]] w fun e w' => e = .returned (.bool true) ∧ D.Kept w w' := by
  obtain ⟨k, hk, ek⟩ := D.low 3 7 (by omega) (by decide) x
  have ek' : bits .and .i64 x 7 = (k : Int) := ek
  have hk8 : k < 8 := hk
  clear ek hk
  obtain ⟨pf, cf, rfl, _⟩ := hf.out
  obtain ⟨e1, d1, pl⟩ := plan k hk8 ⟨(k : Int), l⟩ rfl
  have hnew := fun (W : World) (g : Nat) (hK : D.Kept w W) (hg : W.heap[g]? = some (Obj.cells #[.int .i64 (k : Int), .slice pf l.length cf] 48)) =>
    D.new_walk (B := w.heap.size) (w := W) 4 (by omega) (cut_one hg (hf.on (hK.on (Nat.le_refl _)))) hK.size (by simp) (by intro c hc; simp at hc; subst hc; exact hl)
  have f24 : ∀ (W : World) (B b g : Nat), DiskAt B W b g (Dk.new 4 [⟨(k : Int), l⟩]) → B ≤ W.heap.size → Calls Tryz.prog 24 #[.pointer (some ⟨b, 0, none⟩)] W fun e w' => e = .returned (.int .i64 e1) ∧ DiskAt B w' b g d1 ∧ D.On B W w' := fun W B b g h1 h2 => by
    have := format_walk h1 h2 (D.new_ok 4 [⟨(k : Int), l⟩]) (by omega)
    rw [pl.fmt] at this
    exact this
  have hfd0 : ∀ (W : World) (x r : Int), (Instr.field 52 (.agg #[.int .u64 x, .int .i64 r]) 0).run Tryz.prog W = .ok (.int .u64 x) W := fun _ _ _ => by kernel_rfl
  have hfd1 : ∀ (W : World) (x r : Int), (Instr.field 52 (.agg #[.int .u64 x, .int .i64 r]) 1).run Tryz.prog W = .ok (.int .i64 r) W := fun _ _ _ => by kernel_rfl
  have herr := pl.err
  have hrest := pl.rest
  generalize Dk.new 4 [⟨(k : Int), l⟩] = dn at hnew f24
  clear pl
  have hcase : (k < 5 ∧ e1 = 40) ∨ ¬ k < 5 := by by_cases h : k < 5; exact .inl ⟨h, herr h⟩; exact .inr h
  clear herr
  rcases hrest with hy | ⟨e2, d3, d5, he2, hno, hf5, ok3, hy5⟩
  · rcases hcase with ⟨h5, rfl⟩ | h5
    all_goals
      go_enter Tryz.func5, Tryz.ntmps5
      go_wp2_with (first
        | (go_at_call 23; refine (hnew _ _ (((D.Kept.refl w).alloc _).alloc _) (D.two_new _ _ _)).mono ?_; rintro e w1 ⟨b, g, rfl, hD1, hk1⟩; obtain ⟨B1, hD1', hwB, hB1⟩ : ∃ B1, DiskAt B1 w1 b g dn ∧ w.heap.size ≤ B1 ∧ B1 ≤ w1.heap.size := ⟨_, hD1, (((D.Kept.refl w).alloc _).alloc _).size, hk1.size⟩; have hkw1 : D.Kept w w1 := (((D.Kept.refl w).alloc _).alloc _).trans hk1; have h8 := awake_walk w1 (lds_kept hL hkw1); clear hD1 hk1)
        | (go_at_call 8; (with_reducible refine h8.mono ?_); rintro e w2 ⟨rfl, hk2⟩; have hB2 := Nat.le_trans hB1 hk2.size; have h24 := f24 w2 B1 b g (hk2.dk hD1') hB2; have hkw2 := hkw1.trans hk2)
        | (go_at_call 24; (with_reducible refine h24.mono ?_); rintro e w3 ⟨rfl, hD3, o3⟩; have hB3 := Nat.le_trans hB2 o3.size; have h19 := D.up_walk hD3)
        | (go_at_call 19; (with_reducible refine h19.mono ?_); rintro e w4 ⟨rfl, hD4, o4⟩; have hB4 := Nat.le_trans hB3 o4.size; have h15 := hy w4 B1 b g hD4 hB4)
        | (go_at_call 15; (with_reducible refine h15.mono ?_); rintro e w5 ⟨p, q, rfl, hG5, hq1, hq2, n5⟩; have hst := state_walk hG5; rw [hq1, hq2] at hst)
        | (go_at_call 20; (with_reducible refine hst.mono ?_); rintro e w6 ⟨rfl, K6⟩; have hG6 : GAt B1 w6 p b g q := (by obtain ⟨a, u1, u2, kk⟩ := hG5.out; exact ⟨a, u1, u2, kk.kept K6⟩); have hst2 := state_walk hG6; rw [hq1, hq2] at hst2; clear hst)
        | (go_at_call 20; (with_reducible refine hst2.mono ?_); rintro e w7 ⟨rfl, K7⟩))
      go_ret
      have b5 : Below w.heap.size w w5 := ((hkw2.out.trans (o3.below.mono hwB)).trans (o4.below.mono hwB)).trans (n5.below.mono hwB)
      have b6 := b5.trans (K6.out.mono b5.size)
      exact ⟨rfl, ⟨b6.trans (K7.out.mono b6.size)⟩⟩
  · have he2' : ((e2 != 0) = true) := by rcases he2 with rfl | rfl <;> decide
    have f24b : ∀ (W : World) (B b g : Nat), DiskAt B W b g d3.up → B ≤ W.heap.size → Calls Tryz.prog 24 #[.pointer (some ⟨b, 0, none⟩)] W fun e w' => e = .returned (.int .i64 0) ∧ DiskAt B w' b g d5 ∧ D.On B W w' := fun W B b g h1 h2 => by
      have := format_walk h1 h2 ok3 (by omega)
      rw [hf5] at this
      exact this
    clear hf5 ok3
    rcases hcase with ⟨h5, rfl⟩ | h5 <;> rcases he2 with rfl | rfl
    all_goals
      go_enter Tryz.func5, Tryz.ntmps5
      go_wp2_with (first
        | (go_at_call 23; refine (hnew _ _ (((D.Kept.refl w).alloc _).alloc _) (D.two_new _ _ _)).mono ?_; rintro e w1 ⟨b, g, rfl, hD1, hk1⟩; obtain ⟨B1, hD1', hwB, hB1⟩ : ∃ B1, DiskAt B1 w1 b g dn ∧ w.heap.size ≤ B1 ∧ B1 ≤ w1.heap.size := ⟨_, hD1, (((D.Kept.refl w).alloc _).alloc _).size, hk1.size⟩; have hkw1 : D.Kept w w1 := (((D.Kept.refl w).alloc _).alloc _).trans hk1; have h8 := awake_walk w1 (lds_kept hL hkw1); clear hD1 hk1)
        | (go_at_call 8; (with_reducible refine h8.mono ?_); rintro e w2 ⟨rfl, hk2⟩; have hB2 := Nat.le_trans hB1 hk2.size; have h24 := f24 w2 B1 b g (hk2.dk hD1') hB2; have hkw2 := hkw1.trans hk2)
        | (go_at_call 24; (with_reducible refine h24.mono ?_); rintro e w3 ⟨rfl, hD3, o3⟩; have hB3 := Nat.le_trans hB2 o3.size; have h19 := D.up_walk hD3; clear h24)
        | (go_at_call 19; (with_reducible refine h19.mono ?_); rintro e w4 ⟨rfl, hD4, o4⟩; have hB4 := Nat.le_trans hB3 o4.size; have h15 := hno w4 B1 b g hD4 hB4; clear h19)
        | (go_at_call 15; (with_reducible refine h15.mono ?_); rintro e w5 ⟨rfl, hD5, o5⟩; have hB5 := Nat.le_trans hB4 o5.size; have i19 := D.up_walk hD5; clear h15)
        | (go_at_call 19; (with_reducible refine i19.mono ?_); rintro e w6 ⟨rfl, hD6, o6⟩; have hB6 := Nat.le_trans hB5 o6.size; have i24 := f24b w6 B1 b g hD6 hB6; clear i19)
        | (go_at_call 24; (with_reducible refine i24.mono ?_); rintro e w7 ⟨rfl, hD7, o7⟩; have hB7 := Nat.le_trans hB6 o7.size; have i15 := hy5 w7 B1 b g hD7 hB7; clear i24)
        | (go_at_call 15; (with_reducible refine i15.mono ?_); rintro e w8 ⟨p, q, rfl, hG8, hq1, hq2, n8⟩; have hst := state_walk hG8; rw [hq1, hq2] at hst; clear i15)
        | (go_at_call 20; (with_reducible refine hst.mono ?_); rintro e w9 ⟨rfl, K9⟩))
      go_ret
      have b4 : Below w.heap.size w w4 := (hkw2.out.trans (o3.below.mono hwB)).trans (o4.below.mono hwB)
      have b7 : Below w.heap.size w w7 := ((b4.trans (o5.below.mono hwB)).trans (o6.below.mono hwB)).trans (o7.below.mono hwB)
      have b8 := b7.trans (n8.below.mono hwB)
      exact ⟨rfl, ⟨b8.trans (K9.out.mono b8.size)⟩⟩
end Go.Proofs.YthlhnjjofefgcaaGreatDoor.G

namespace Go.Proofs.YthlhnjjofefgcaaGreatDoor.G
open Go.ChangeShapes Go.WideShapes Go.ChangeAt Go.RowKit
open D (Dk Ok DiskAt)
open P (bs supL Sup supP Small)

set_option maxRecDepth 100000 in
set_option maxHeartbeats 2000000 in
theorem look_disk_new {B : Nat} {w : World} {p m : Nat} {a : Ad} {q : Pq} (h : GA B w p a q) (hB : B ≤ w.heap.size) (ok : Ok m q.disk) (hm : m < 49000) (n : Nat) (h2 : 2 ≤ n) (hn : n < 64) (hx0 : q.fresh n = none) (hf : ¬ q.disk.fails = q.fails)
    (l : List Nat) (hl : Small l) (ho : P.Okk l) (hS : (q.disk.read (n : Nat)).2 = (bs l, 0)) (x : Pag) (ex : x = ⟨P.fK l, P.fN l, P.fG l, bs (P.fD l)⟩) (hnum : P.fN l = n) :
    Calls Tryz.prog 36 #[.pointer (some ⟨p, 0, none⟩), .int .i64 (n : Nat)] w fun e w' => e = .returned (.tuple #[x.val, .int .i64 0]) ∧ GA B w' p a { q with disk := (q.disk.read (n : Nat)).1, fails := q.disk.fails, held := putM (fun _ => none) n x } ∧ On B w w' := by
  have Z0 := P.Pg.alloc w 0 0 0 ⟨#[]⟩ 55
  have K1 : D.Kept w (w.alloc (.cells #[.int .i64 0, .int .i64 0, .int .u64 0, .string ⟨#[]⟩] 55)) := (D.Kept.refl w).alloc _
  have k1 := h.kept K1
  obtain ⟨c0, c1, c2, c3, c4, c5, c6, c7, c8, c9⟩ := k1.cs
  have lk := k1.fm.look n (by omega)
  rw [show atK q.fresh n = Pag.zero by simp [atK, hx0], hx0] at lk
  have lk1 : (Instr.lookup 66 (.map (some a.mf)) (.int .i64 (n : Nat)) true).run Tryz.prog (w.alloc (.cells #[.int .i64 0, .int .i64 0, .int .u64 0, .string ⟨#[]⟩] 55)) = .ok (.tuple #[.agg #[.int .i64 0, .int .i64 0, .int .u64 0, .string ⟨#[]⟩], .bool false]) (w.alloc (.cells #[.int .i64 0, .int .i64 0, .int .u64 0, .string ⟨#[]⟩] 55)) := lk
  have K2 : D.Kept w ((w.alloc (.cells #[.int .i64 0, .int .i64 0, .int .u64 0, .string ⟨#[]⟩] 55)).alloc (.cells #[.int .i64 0, .int .i64 0, .int .u64 0, .string ⟨#[]⟩] 55)) := K1.alloc _
  have Z2 : P.Pg ((w.alloc (.cells #[.int .i64 0, .int .i64 0, .int .u64 0, .string ⟨#[]⟩] 55)).alloc (.cells #[.int .i64 0, .int .i64 0, .int .u64 0, .string ⟨#[]⟩] 55)) w.heap.size 0 0 0 ⟨#[]⟩ 55 := ((P.Kept.refl _).alloc _).pg Z0
  have k2 := h.kept K2
  have f1 := D.fails_walk k2.disk
  obtain ⟨F, hF⟩ : ∃ F : Nat, q.disk.fails = F := ⟨_, rfl⟩
  rw [hF] at f1
  obtain ⟨d0, d1, d2, d3, d4, d5, d6, d7, d8, d9⟩ := k2.cs
  obtain ⟨W3, cl0, m3, o3⟩ := k2.hm.clear 0
  have cl : ∀ ty, (Builtin.clear_ #[66] ty #[.map (some a.mh)]).run Tryz.prog ((w.alloc (.cells #[.int .i64 0, .int .i64 0, .int .u64 0, .string ⟨#[]⟩] 55)).alloc (.cells #[.int .i64 0, .int .i64 0, .int .u64 0, .string ⟨#[]⟩] 55)) = .ok (.tuple #[]) W3 := fun ty => cl0
  obtain ⟨k3, n3⟩ := k2.onH o3 m3
  obtain ⟨e0, e1, e2, e3, e4, e5, e6, e7, e8, e9⟩ := k3.cs
  have z38 := k3.fz 8
  have Z3 := Pg.one Z2 k2.hm o3
  obtain ⟨k4, n4⟩ := k3.setFails F
  have Z4 := Pg.setp Z3 k3 8 (.int .i64 (F : Nat))
  obtain ⟨g0, g1, g2, g3, g4, g5, g6, g7, g8, g9⟩ := k4.cs
  have lh0 := k4.hm.look n (by omega)
  have hne' : (((F : Nat) : Int) != (q.fails : Int)) = true := by rw [← hF]; simp; omega
  have N4 := (On.ofKept K2 hB).trans (n3.trans n4)
  clear cl0
  have lh : (Instr.lookup 66 (.map (some a.mh)) (.int .i64 (n : Nat)) true).run Tryz.prog (W3.setCell ⟨p, 8, none⟩ (.int .i64 (F : Nat))) = .ok (.tuple #[.agg #[.int .i64 0, .int .i64 0, .int .u64 0, .string ⟨#[]⟩], .bool false]) (W3.setCell ⟨p, 8, none⟩ (.int .i64 (F : Nat))) := lh0
  have K5 : D.Kept (W3.setCell ⟨p, 8, none⟩ (.int .i64 (F : Nat))) ((W3.setCell ⟨p, 8, none⟩ (.int .i64 (F : Nat))).alloc (.cells #[.int .i64 0, .int .i64 0, .int .u64 0, .string ⟨#[]⟩] 55)) := (D.Kept.refl _).alloc _
  have k5 := k4.kept K5
  have Z5 : P.Pg ((W3.setCell ⟨p, 8, none⟩ (.int .i64 (F : Nat))).alloc (.cells #[.int .i64 0, .int .i64 0, .int .u64 0, .string ⟨#[]⟩] 55)) w.heap.size 0 0 0 ⟨#[]⟩ 55 := P.Kept.pg ⟨K5.out⟩ Z4
  obtain ⟨i0, i1, i2, i3, i4, i5, i6, i7, i8, i9⟩ := k5.cs
  have N5 := N4.kept K5 hB
  have hB5 := Nat.le_trans hB N5.size
  have f2 := D.read_walk k5.disk hB5 ok (by omega) (n : Nat)
  have f3 : ∀ W, Calls Tryz.prog 56 #[.string (bs l)] W fun e w' => e = .returned (.tuple #[.agg #[.int .i64 (P.fK l : Nat), .int .i64 (n : Nat), .int .u64 (P.fG l : Nat), .string (bs (P.fD l))], .int .i64 0]) ∧ P.Kept W w' := fun W => by rw [← hnum]; exact P.get_yes l hl ho W
  subst ex
  rw [hnum]
  rw [hS] at f2
  rw [hF]
  generalize bs l = S at f2 f3
  generalize bs (P.fD l) = xs at f3 ⊢
  generalize P.fK l = xk at f3 ⊢
  generalize P.fG l = xg at f3 ⊢
  clear hx0 lk hS hnum hl ho lh0 hf
  dsimp only at f2
  have HF : Hid True := trivial
  go_enter Tryz.func36, Tryz.ntmps36
  go_wp2_with (first
    | (go_at_call 22; (with_reducible refine f1.mono ?_); rintro e w1 ⟨rfl, hw1⟩; rw [hw1]; clear hw1)
    | (go_at_call 54; (with_reducible refine f2.mono ?_); rintro e w6 ⟨rfl, D6, o6⟩; have k6 := k5.onD o6 D6; have Z6 := Pg.onD Z5 o6; have N6 := N5.trans (On.ofD o6))
    | (go_at_call 56; (with_reducible refine (f3 _).mono ?_); rintro e w7 ⟨rfl, K7⟩; have Y8 := P.Pg.alloc w7 (xk : Nat) (n : Nat) (xg : Nat) xs 55; have K8 : D.Kept w6 (w7.alloc (.cells #[.int .i64 (xk : Nat), .int .i64 (n : Nat), .int .u64 (xg : Nat), .string xs] 55)) := D.Kept.trans ⟨K7.out⟩ ((D.Kept.refl w7).alloc _); have k8 := k6.kept K8; have Z8 : P.Pg _ w.heap.size 0 0 0 ⟨#[]⟩ 55 := P.Kept.pg ⟨K8.out⟩ Z6; have N8 := N6.kept K8 hB; obtain ⟨j0, j1, j2, j3, j4, j5, j6, j7, j8, j9⟩ := k8.cs; obtain ⟨y0, y1, y2, y3⟩ := Y8.cs; obtain ⟨w9, st0, m9, o9⟩ := MAt.store (w := (w7.alloc (.cells #[.int .i64 (xk : Nat), .int .i64 (n : Nat), .int .u64 (xg : Nat), .string xs] 55)).drew) (k8.hm.same rfl) n hn ⟨xk, n, xg, xs⟩; have st : (Instr.mapUpdate 66 (.map (some a.mh)) (.int .i64 (n : Nat)) (.agg #[.int .i64 (xk : Nat), .int .i64 (n : Nat), .int .u64 (xg : Nat), .string xs])).run Tryz.prog (w7.alloc (.cells #[.int .i64 (xk : Nat), .int .i64 (n : Nat), .int .u64 (xg : Nat), .string xs] 55)).drew = .ok () w9 := st0; clear st0))
  have o9' : One a.mh (w7.alloc (.cells #[.int .i64 (xk : Nat), .int .i64 (n : Nat), .int .u64 (xg : Nat), .string xs] 55)) w9 := ⟨fun X hX => ⟨(o9.below X hX).os, (o9.below X hX).tape, (o9.below X hX).output, (o9.below X hX).size, (o9.below X hX).block⟩, o9.size, o9.block⟩
  have Z9 := Pg.one Z8 k8.hm o9'
  have Y9 := Pg.one Y8 k8.hm o9'
  obtain ⟨k9, n9⟩ := k8.onH o9' m9
  have N9 := N8.trans n9
  have j7' : w9.cell? ⟨p, 7, none⟩ = some (.map (some a.mh)) := k9.cs.2.2.2.2.2.2.2.1
  obtain ⟨y90, y91, y92, y93⟩ := Y9.cs
  obtain ⟨⟨z0, h0⟩, ⟨z1, h1⟩, ⟨z2, hh2⟩, z3, h3⟩ := Z9.ready (xk : Nat) (n : Nat) (xg : Nat)
  obtain ⟨kA, NA⟩ := fill_far k9 Z9 N9 hB (Nat.le_refl _) (xk : Nat) (n : Nat) (xg : Nat) xs
  have rA := (Z9.fill (xk : Nat) (n : Nat) (xg : Nat) xs).out
  go_region_held3 (fun W => W.cell? ⟨p, 7, none⟩ = some (.map (some a.mh)) ∧ W.cell? ⟨w7.heap.size, 0, none⟩ = some (.int .i64 (xk : Nat)) ∧ W.cell? ⟨w7.heap.size, 1, none⟩ = some (.int .i64 (n : Nat)) ∧ W.cell? ⟨w7.heap.size, 2, none⟩ = some (.int .u64 (xg : Nat)) ∧ W.cell? ⟨w7.heap.size, 3, none⟩ = some (.string xs)) (first | trivial | go_keep) (fail)
  all_goals go_wp2
  all_goals refine bodyPost_ret (v := .tuple #[.agg #[.int .i64 (xk : Nat), .int .i64 (n : Nat), .int .u64 (xg : Nat), .string xs], .int .i64 0]) ?_ rfl ⟨rfl, kA, NA⟩
  all_goals exact P.results_two (p := 4) (u := 5) (ty := 55) rfl _ _ w.heap.size 55 _ (0, 0) _ rfl rA Tryz.underlying55 rfl P.size55

end Go.Proofs.YthlhnjjofefgcaaGreatDoor.G

namespace Go.Proofs.YthlhnjjofefgcaaGreatDoor.G
open Go.ChangeShapes Go.WideShapes Go.ChangeAt Go.RowKit
open D (Dk Ok DiskAt Sec Wr Ct CutsAt FatesAt whole)
open P (bs supL Sup supP Small)

def pg2 (s : ByteArray) : Pag := ⟨2, (2 : Nat), 2, s⟩
def pg3 (t : ByteArray) : Pag := ⟨3, (3 : Nat), 3, t⟩
def mp2 (s : ByteArray) : Nat → Option Pag := putM (fun _ => none) 2 (pg2 s)
def mp3 (t : ByteArray) : Nat → Option Pag := putM (fun _ => none) 3 (pg3 t)
theorem keys2 (s : ByteArray) : keysOf (mp2 s) = [2] := rfl
theorem keys3 (t : ByteArray) : keysOf (mp3 t) = [3] := rfl
theorem gen2 (s : ByteArray) (n : Nat) : (atK (mp2 s) n).gen < 18446744073709551616 := by
  show ((putM (fun _ => none) 2 (pg2 s) n).getD Pag.zero).gen < _
  unfold putM
  split
  · show 2 < 18446744073709551616; decide
  · show 0 < 18446744073709551616; decide
theorem gen3 (s : ByteArray) (n : Nat) : (atK (mp3 s) n).gen < 18446744073709551616 := by
  show ((putM (fun _ => none) 3 (pg3 s) n).getD Pag.zero).gen < _
  unfold putM
  split
  · show 3 < 18446744073709551616; decide
  · show 0 < 18446744073709551616; decide
theorem sup22 : Sup 2 2 := by unfold Sup; decide
theorem sup33 : Sup 3 3 := by unfold Sup; decide

structure C2 (s : ByteArray) (l : List Ct) (d : Dk) : Prop where
  flu : Flu d
  len : d.secs.length = 9
  s0 : d.secs[0]? = some ⟨bs (supP 2 2), false, 0⟩
  s1 : d.secs[1]? = some ⟨st1, false, 0⟩
  s2 : d.secs[2]? = some ⟨whole (secOf (mp2 s) 2), false, 0⟩
  cuts : d.cuts = l
  fails : d.fails = 0
  since : d.since = 11
  ok : Ok 11 d

theorem c2_of (s : ByteArray) {l : List Ct} {d : Dk} (hb : Bg 9 l d) (hl : Liv d 4) : ∃ d2, wrt (mp2 s) d (keysOf (mp2 s)) 2 2 = (d2, 0, false) ∧ C2 s l d2 := by
  obtain ⟨d1, d2, e, w1, w2⟩ := wrt_live (mp2 s) hb.flu (l := keysOf (mp2 s)) hl (keys_ne _) (by rw [keys2]; intro n hn; simp at hn; subst hn; rw [hb.len]; decide) (by rw [hb.len]; decide) 2 2 sup22
  have ok2 := wrt_ok (M := mp2 s) hb.ok (keysOf (mp2 s)) 2 2
  rw [e] at ok2
  rw [keys2] at w1
  refine ⟨d2, e, w2.flu, by rw [w2.len, w1.len, hb.len], w2.own ⟨0, bs (supP 2 2)⟩ (by simp), ?_, ?_, by rw [w2.cuts, w1.cuts, hb.cuts], by rw [w2.fails, w1.fails, hb.fails], by rw [w2.since, w1.since, hb.since]; rfl, ok2⟩
  · rw [w2.oth 1 (by intro x hx; simp at hx; subst hx; decide), w1.oth 1 (by intro x hx; simp [wrl] at hx; subst hx; show 2 ≠ 1; decide)]
    exact hb.s1
  · rw [w2.oth 2 (by intro x hx; simp at hx; subst hx; decide)]
    exact w1.own ⟨2, whole (secOf (mp2 s) 2)⟩ (by simp [wrl])

structure En (s t : ByteArray) (f : Int) (U : Dk) (r : Nat) : Prop where
  flu : Flu U
  cuts : U.cuts = []
  len : U.secs.length = 9
  ok : Ok 40 U
  s2 : U.secs[2]? = some ⟨whole (secOf (mp2 s) 2), false, 0⟩
  st : ∃ s0 s1 o0 o1, U.secs[0]? = some s0 ∧ U.secs[1]? = some s1 ∧ Sd (sayS s0).1 0 o0 ∧ Sd (sayS s1).1 1 o1 ∧ pick o0 o1 = some (r, (r : Int))
  which : (r = 2 ∧ f = 40) ∨ (r = 3 ∧ U.secs[3]? = some ⟨whole (secOf (mp3 t) 3), false, 0⟩ ∧ (f = 0 ∨ 0 < U.fails))

theorem en_ok (s t : ByteArray) {d : Dk} (h : C2 s [] d) : ∃ d3, wrt (mp3 t) d (keysOf (mp3 t)) 3 3 = (d3, 0, false) ∧ En s t 0 d3.up 3 := by
  obtain ⟨d1, d3, e, w1, w2⟩ := wrt_live (mp3 t) h.flu (l := keysOf (mp3 t)) ⟨h.flu.up, by intro c r e; rw [h.cuts] at e; cases e⟩ (keys_ne _) (by rw [keys3]; intro n hn; simp at hn; subst hn; rw [h.len]; decide) (by rw [h.len]; decide) 3 3 sup33
  have ok3 := wrt_ok (M := mp3 t) h.ok (keysOf (mp3 t)) 3 3
  rw [e] at ok3
  rw [keys3] at w1
  have eu : d3.up = d3 := by unfold Dk.up; rw [if_neg (by rw [w2.flu.up]; decide)]
  refine ⟨d3, e, ?_⟩
  rw [eu]
  have a0 : d3.secs[0]? = some ⟨bs (supP 2 2), false, 0⟩ := by
    rw [w2.oth 0 (by intro x hx; simp at hx; subst hx; decide), w1.oth 0 (by intro x hx; simp [wrl] at hx; subst hx; show 3 ≠ 0; decide)]; exact h.s0
  have a2 : d3.secs[2]? = some ⟨whole (secOf (mp2 s) 2), false, 0⟩ := by
    rw [w2.oth 2 (by intro x hx; simp at hx; subst hx; decide), w1.oth 2 (by intro x hx; simp [wrl] at hx; subst hx; show 3 ≠ 2; decide)]; exact h.s2
  have a3 : d3.secs[3]? = some ⟨whole (secOf (mp3 t) 3), false, 0⟩ := by
    rw [w2.oth 3 (by intro x hx; simp at hx; subst hx; decide)]; exact w1.own ⟨3, whole (secOf (mp3 t) 3)⟩ (by simp [wrl])
  have a1 : d3.secs[1]? = some ⟨bs (supP 3 3), false, 0⟩ := w2.own ⟨1, bs (supP 3 3)⟩ (by simp)
  exact ⟨w2.flu, by rw [w2.cuts, w1.cuts, h.cuts], by rw [w2.len, w1.len, h.len], Ok.mono ok3 (show 11 + 1 + 3 ≤ 40 by decide), a2, ⟨_, _, some (2, 2), some (3, 3), a0, a1, sd_state sup22 rfl, sd_state sup33 rfl, rfl⟩, .inr ⟨rfl, a3, .inl rfl⟩⟩

theorem lft_up {d0 d : Dk} {ws : List Wr} (h : Lft d0 ws d) (hc : d.cuts = []) : Flu d.up ∧ d.up.cuts = [] ∧ d.up.secs = d.secs ∧ d.up.fails = d.fails := by
  have e : d.up = { d with dead := false, since := 0 } := by simp [Dk.up, h.dead]
  rw [e]
  exact ⟨⟨h.waits, h.last, rfl⟩, hc, rfl, rfl⟩

theorem en_cut (s t : ByteArray) (c : Ct) (k : Nat) (hk : k < 4) (hc : c.at_ = 11 + (k : Int)) {d : Dk} (h : C2 s [c] d) : ∃ d3 b r, wrt (mp3 t) d (keysOf (mp3 t)) 3 3 = (d3, 40, b) ∧ En s t 40 d3.up r := by
  obtain ⟨x3, hx3⟩ : ∃ x3 : Wr, x3 = ⟨3, whole (secOf (mp3 t) 3)⟩ := ⟨_, rfl⟩
  have ok3 := wrt_ok (M := mp3 t) h.ok (keysOf (mp3 t)) 3 3
  have p0 := Pend.nil h.flu
  have hz := sec_size (mp3 t) 3
  -- only the page was under way
  have early : ∀ {d' : Dk}, Lft d [x3] d' → d'.cuts = [] → Ok 15 d' → En s t 40 d'.up 2 := by
    intro d' hl hcu hok
    obtain ⟨fl, cu, es, ef⟩ := lft_up hl hcu
    have ot : ∀ i, i ≠ 3 → d'.up.secs[i]? = d.secs[i]? := by
      intro i hi; rw [es]; exact hl.oth i (by intro x hx; simp at hx; subst hx; rw [hx3]; exact Ne.symm hi)
    exact ⟨fl, cu, by rw [es, hl.len, h.len], Ok.mono (D.up_ok hok) (by decide), by rw [ot 2 (by decide)]; exact h.s2,
      ⟨_, _, some (2, 2), some (1, -1), (ot 0 (by decide)).trans h.s0, (ot 1 (by decide)).trans h.s1, sd_state sup22 rfl, sd_state sup11 rfl, rfl⟩, .inl ⟨rfl, rfl⟩⟩
  by_cases k0 : k = 0
  · obtain ⟨d', e, l1, l2⟩ := write_fails p0 h.flu h.cuts (by rw [h.since, hc]; omega) 3 (by rw [h.len]; decide) (by intro _ h; cases h) (secOf (mp3 t) 3) hz
    rw [List.nil_append, ← hx3] at l1
    have ew : wrs (mp3 t) d [3] = (d', 40) := by unfold wrs; rw [e, if_pos (show (40 : Int) ≠ 0 by decide)]
    have et : wrt (mp3 t) d (keysOf (mp3 t)) 3 3 = (d', 40, false) := by rw [keys3]; unfold wrt; rw [ew, if_pos (show (40 : Int) ≠ 0 by decide)]
    rw [et] at ok3
    exact ⟨d', false, 2, et, early l1 l2 ok3⟩
  · have lv : ∀ j, j ≤ k → Liv d j := fun j hj => ⟨h.flu.up, fun c' r hc' => by rw [h.cuts] at hc'; injection hc' with e _; subst e; rw [h.since, hc]; omega⟩
    have e1 := write_live (lv 1 (by omega)) 3 (by rw [h.len]; decide) (secOf (mp3 t) 3) hz
    rw [← hx3] at e1
    have p1 := p0.write h.flu x3 (by rw [hx3, h.len]; show 3 < 9; decide) (by intro _ h; cases h)
    rw [List.nil_append] at p1
    have ew : wrs (mp3 t) d [3] = ((d.wait x3).begin, 0) := by unfold wrs; rw [e1, if_neg (by simp)]; rfl
    by_cases k1 : k = 1
    · obtain ⟨d', e, l1, l2⟩ := flush_fails p1 h.flu h.cuts (by rw [p1.since, h.since, hc]; show ¬ ((11 + 1 : Nat) : Int) < _; omega)
      have et : wrt (mp3 t) d (keysOf (mp3 t)) 3 3 = (d', 40, false) := by rw [keys3]; unfold wrt; rw [ew, if_neg (by simp), e, if_pos (show (40 : Int) ≠ 0 by decide)]
      rw [et] at ok3
      exact ⟨d', false, 2, et, early l1 l2 ok3⟩
    · have lv1 : Liv (d.wait x3).begin 1 := p1.live (lv 2 (by omega))
      have e2 := flush_live lv1
      have w1 := p1.flush h.flu
      obtain ⟨d1, hd1⟩ : ∃ d1, (d.wait x3).begin.begin.good = d1 := ⟨_, rfl⟩
      rw [hd1] at e2 w1
      have ot : ∀ i, i ≠ 3 → d1.secs[i]? = d.secs[i]? := fun i hi => w1.oth i (by intro x hx; simp at hx; subst hx; rw [hx3]; exact Ne.symm hi)
      have o3 : d1.secs[3]? = some ⟨whole (secOf (mp3 t) 3), false, 0⟩ := by have := w1.own x3 (by simp); rw [hx3] at this; exact this
      have cu1 : d1.cuts = [c] := by rw [w1.cuts]; exact h.cuts
      have si1 : d1.since = 13 := by rw [w1.since, h.since]; rfl
      have late : ∀ {d' : Dk}, Lft d1 [⟨1, bs (supP 3 3)⟩] d' → d'.cuts = [] → Ok 15 d' → ∃ r, En s t 40 d'.up r := by
        intro d' hl hcu hok
        obtain ⟨fl, cu, es, ef⟩ := lft_up hl hcu
        have ot' : ∀ i, i ≠ 1 → d'.up.secs[i]? = d1.secs[i]? := by
          intro i hi; rw [es]; exact hl.oth i (by intro x hx; simp at hx; subst hx; exact Ne.symm hi)
        have a0 : d'.up.secs[0]? = some ⟨bs (supP 2 2), false, 0⟩ := (ot' 0 (by decide)).trans ((ot 0 (by decide)).trans h.s0)
        have a2 := (ot' 2 (by decide)).trans ((ot 2 (by decide)).trans h.s2)
        have a3 := (ot' 3 (by decide)).trans o3
        have ln : d'.up.secs.length = 9 := by rw [es, hl.len, w1.len, h.len]
        have fa : d'.up.fails = 1 := by rw [ef, hl.fails, w1.fails, h.fails]
        have ok' : Ok 40 d'.up := Ok.mono (D.up_ok hok) (by decide)
        have hown := hl.own ⟨1, bs (supP 3 3)⟩ (by simp)
        rcases hown with e | e | e
        · exact ⟨2, fl, cu, ln, ok', a2, ⟨_, ⟨st1, false, 0⟩, some (2, 2), some (1, -1), a0, (by rw [es]; exact e.trans ((ot 1 (by decide)).trans h.s1)), sd_state sup22 rfl, sd_state sup11 rfl, rfl⟩, .inl ⟨rfl, rfl⟩⟩
        · exact ⟨3, fl, cu, ln, ok', a2, ⟨_, ⟨bs (supP 3 3), false, 0⟩, some (2, 2), some (3, 3), a0, (by rw [es]; exact e), sd_state sup22 rfl, sd_state sup33 rfl, rfl⟩, .inr ⟨rfl, a3, .inr (by rw [fa]; decide)⟩⟩
        · exact ⟨2, fl, cu, ln, ok', a2, ⟨_, ⟨bs (supP 3 3), true, 0⟩, some (2, 2), none, a0, (by rw [es]; exact e), sd_state sup22 rfl, sd_empty 1, rfl⟩, .inl ⟨rfl, rfl⟩⟩
      have hst : (bs (supL 3 3)).size ≤ 256 := sup_size _ _
      have ewh : whole (bs (supL 3 3)) = bs (supP 3 3) := sup_whole sup33
      have ec0 : comt d1 3 3 = setl d1 1 (bs (supL 3 3)) := rfl
      by_cases k2 : k = 2
      · obtain ⟨d', e, l1, l2⟩ := write_fails (Pend.nil w1.flu) w1.flu cu1 (by rw [si1, hc]; omega) 1 (by rw [w1.len, h.len]; decide) (by intro _ h; cases h) (bs (supL 3 3)) hst
        rw [ewh, List.nil_append] at l1
        have ec : comt d1 3 3 = (d', 40) := by
          have e' : d1.write 1 (bs (supL 3 3)) = (d', 40) := e
          rw [ec0]; unfold setl; rw [e', if_pos (show (40 : Int) ≠ 0 by decide)]
        have et : wrt (mp3 t) d (keysOf (mp3 t)) 3 3 = (d', 40, true) := by rw [keys3]; unfold wrt; rw [ew, if_neg (by simp), e2, if_neg (by simp), ec]; rfl
        rw [et] at ok3
        obtain ⟨r, hr⟩ := late l1 l2 ok3
        exact ⟨d', true, r, et, hr⟩
      · have lw1 : Liv d1 1 := w1.live (lv 3 (by omega))
        have e4 : d1.write 1 (bs (supL 3 3)) = ((d1.wait ⟨1, bs (supP 3 3)⟩).begin, 0) := by
          have := write_live lw1 1 (by rw [w1.len, h.len]; decide) (bs (supL 3 3)) hst
          rw [ewh] at this
          exact this
        have p3 := (Pend.nil w1.flu).write w1.flu ⟨1, bs (supP 3 3)⟩ (show 1 < _ by rw [w1.len, h.len]; decide) (by intro _ h; cases h)
        rw [List.nil_append] at p3
        obtain ⟨d', e, l1, l2⟩ := flush_fails p3 w1.flu cu1 (by rw [p3.since, si1, hc]; show ¬ ((13 + 1 : Nat) : Int) < _; omega)
        have ec : comt d1 3 3 = (d', 40) := by
          rw [ec0]; unfold setl; rw [e4, if_neg (by simp)]; exact e
        have et : wrt (mp3 t) d (keysOf (mp3 t)) 3 3 = (d', 40, true) := by rw [keys3]; unfold wrt; rw [ew, if_neg (by simp), e2, if_neg (by simp), ec]; rfl
        rw [et] at ok3
        obtain ⟨r, hr⟩ := late l1 l2 ok3
        exact ⟨d', true, r, et, hr⟩
end Go.Proofs.YthlhnjjofefgcaaGreatDoor.G

namespace Go.Proofs.YthlhnjjofefgcaaGreatDoor.G
open Go.ChangeShapes Go.WideShapes Go.ChangeAt Go.RowKit
open D (Dk Ok DiskAt Sec Wr Ct CutsAt FatesAt whole)
open P (bs supL Sup supP Small)

theorem look_new {B : Nat} {w : World} {p m : Nat} {a : Ad} {q : Pq} (h : GA B w p a q) (hB : B ≤ w.heap.size) (ok : Ok m q.disk) (hm : m < 49000) (n : Nat) (h2 : 2 ≤ n) (hn : n < 64) (hx0 : q.fresh n = none) (hf : ¬ q.disk.fails = q.fails) (hfl : Flu q.disk) (hl : Liv q.disk 1)
    {M : Nat → Option Pag} {k : Int} {g : Nat} {s : ByteArray} (hM : M n = some ⟨k, n, g, s⟩) (h1 : 1 ≤ k) (h4 : k ≤ 4) (hs : s.size ≤ 237) (hg : g < 18446744073709551616) (hsec : q.disk.secs[n]? = some ⟨whole (secOf M n), false, 0⟩) :
    ∀ W, D.Kept w W → Calls Tryz.prog 36 #[.pointer (some ⟨p, 0, none⟩), .int .i64 (n : Nat)] W fun e w' => e = .returned (.tuple #[(⟨k, n, g, s⟩ : Pag).val, .int .i64 0]) ∧ GA B w' p a { q with disk := q.disk.begin, fails := q.disk.fails, held := putM (fun _ => none) n ⟨k, n, g, s⟩ } ∧ On B W w' := by
  intro W hW
  obtain ⟨l, hl1, ho, ew, ex, en⟩ := sec_says hM h1 h4 (by omega) hs hg
  have er := read_flu hfl hl hsec
  have := look_disk_new (h.kept hW) (Nat.le_trans hB hW.size) ok hm n h2 hn hx0 hf l hl1 ho (by rw [er, ← ew]; rfl) _ ex en
  rw [er] at this
  exact this

theorem first3 {m : Nat} (h : 4 ≤ m) : S.IsFirst (S.useAt ahead 2) m 2 3 := .inl ⟨3, rfl, by decide, by omega, by decide, fun j h1 h2 => by
  have : j = 2 := by omega
  subst this
  decide⟩

def qA (d : Dk) (s : ByteArray) : Pq := (opened d (1, -1)).add 2 2 s
def qB (d d2 : Dk) (s : ByteArray) : Pq := (qA d s).comd d2 2
def qC (d d2 : Dk) (s t : ByteArray) : Pq := (qB d d2 s).add 3 3 t
def qD (d d2 : Dk) (s t : ByteArray) : Pq := (qC d d2 s t).drop 2

theorem cutsA {B : Nat} {b g p : Nat} {d : Dk} {l : List Ct} (hb : Bg 9 l d) (s : ByteArray) (hs : s.size ≤ 100) (W : World) (h : GAt B W p b g (opened d (1, -1))) (hB : B ≤ W.heap.size) (hL : S.Lds W) :
    Calls Tryz.prog 10 #[.pointer (some ⟨p, 0, none⟩), .int .i64 2, .string s] W fun e w' => e = .returned (.tuple #[.int .i64 2, .int .i64 0]) ∧ GAt B w' p b g (qA d s) ∧ On B W w' :=
  add_ok h hB hL 2 (ahead_first (by show 3 ≤ d.secs.length; rw [hb.len]; decide)) (by show 2 < d.secs.length; rw [hb.len]; decide) 2 s (show 1 < 4611686018427387904 by decide) (by decide) (by decide) (by omega)

theorem cutsB {B : Nat} {b g p : Nat} {d d2 : Dk} {l : List Ct} (hb : Bg 9 l d) (s : ByteArray) (e : wrt (mp2 s) d (keysOf (mp2 s)) 2 2 = (d2, 0, false)) (W : World) (h : GAt B W p b g (qA d s)) (hB : B ≤ W.heap.size) :
    Calls Tryz.prog 13 #[.pointer (some ⟨p, 0, none⟩), .int .i64 2] W fun e w' => e = .returned (.int .i64 0) ∧ GAt B w' p b g (qB d d2 s) ∧ On B W w' := by
  obtain ⟨a, rfl, rfl, k⟩ := h.out
  exact commit_ok k hB hb.ok (by decide) rfl (gen2 s) (show 1 < 4611686018427387904 by decide) 2 sup22 d2 false e rfl

theorem cutsC {B : Nat} {b g p : Nat} {d d2 : Dk} {l : List Ct} (hb : Bg 9 l d) (s t : ByteArray) (ht : t.size ≤ 100) (W : World) (h : GAt B W p b g (qB d d2 s)) (hB : B ≤ W.heap.size) (hL : S.Lds W) :
    Calls Tryz.prog 10 #[.pointer (some ⟨p, 0, none⟩), .int .i64 3, .string t] W fun e w' => e = .returned (.tuple #[.int .i64 3, .int .i64 0]) ∧ GAt B w' p b g (qC d d2 s t) ∧ On B W w' :=
  add_ok h hB hL 3 (first3 (by show 4 ≤ d.secs.length; rw [hb.len]; decide)) (by show 3 < d.secs.length; rw [hb.len]; decide) 3 t (show 1 + 1 < 4611686018427387904 by decide) (by decide) (by decide) (by omega)

theorem cutsD {B : Nat} {b g p : Nat} {d d2 : Dk} {l : List Ct} (hb : Bg 9 l d) (s t : ByteArray) (W : World) (h : GAt B W p b g (qC d d2 s t)) (hB : B ≤ W.heap.size) :
    Calls Tryz.prog 11 #[.pointer (some ⟨p, 0, none⟩), .int .i64 2] W fun e w' => e = .returned (.tuple #[]) ∧ GAt B w' p b g (qD d d2 s t) ∧ On B W w' :=
  drop_walk h hB 2 (Nat.le_refl _) (by show 2 < d.secs.length; rw [hb.len]; decide)

theorem cutsE {B : Nat} {b g p : Nat} {d d2 d3 : Dk} {l : List Ct} {f : Int} {bb : Bool} (s t : ByteArray) (h2 : C2 s l d2) (e : wrt (mp3 t) d2 (keysOf (mp3 t)) 3 3 = (d3, f, bb)) (hf : (f = 0 ∧ bb = false) ∨ ¬ f = 0) (W : World) (h : GAt B W p b g (qD d d2 s t)) (hB : B ≤ W.heap.size) :
    Calls Tryz.prog 13 #[.pointer (some ⟨p, 0, none⟩), .int .i64 3] W fun e w' => e = .returned (.int .i64 f) ∧ DiskAt B w' b g d3 ∧ On B W w' := by
  obtain ⟨a, rfl, rfl, k⟩ := h.out
  rcases hf with ⟨rfl, rfl⟩ | hf
  · refine (commit_ok k hB h2.ok (by decide) rfl (gen3 t) (show 1 + 1 < 4611686018427387904 by decide) 3 sup33 d3 false e rfl).mono ?_
    rintro r w' ⟨rfl, hG, n⟩
    obtain ⟨a', e1, e2, k'⟩ := hG.out
    exact ⟨rfl, by rw [← e1, ← e2]; exact k'.disk, n⟩
  · refine (commit_fail k hB h2.ok (by decide) rfl (gen3 t) (show 1 + 1 < 4611686018427387904 by decide) 3 sup33 d3 f bb e hf).mono ?_
    rintro r w' ⟨rfl, k', n⟩
    exact ⟨rfl, k'.disk, n⟩

theorem cutsF {B : Nat} {b g : Nat} {U : Dk} {r : Nat} {s t : ByteArray} {f : Int} (h : En s t f U r) (W : World) (hD : DiskAt B W b g U) (hB : B ≤ W.heap.size) :
    Calls Tryz.prog 15 #[.pointer (some ⟨b, 0, none⟩)] W fun e w' => ∃ p2, e = .returned (.tuple #[.pointer (some ⟨p2, 0, none⟩), .int .i64 0]) ∧ GAt B w' p2 b g (opened U.begin.begin (r, (r : Int))) ∧ On B W w' := by
  obtain ⟨s0, s1, o0, o1, e0, e1, k0, k1, hp⟩ := h.st
  exact open_flu hD hB h.ok (by decide) h.flu ⟨h.flu.up, by intro c r e; rw [h.cuts] at e; cases e⟩ (by rw [h.len]; decide) (by rw [h.len]; decide) e0 e1 k0 k1 _ hp

def qM (U : Dk) (r : Nat) : Pq := (opened U.begin.begin (r, (r : Int))).mark r
def qR (U : Dk) (r : Nat) (s : ByteArray) : Pq := { qM U r with disk := U.begin.begin.begin, fails := U.fails, held := putM (fun _ => none) 2 (pg2 s) }
def qS (U : Dk) (r : Nat) (s t : ByteArray) : Pq := { qR U r s with disk := U.begin.begin.begin.begin, held := putM (putM (fun _ => none) 2 (pg2 s)) 3 (pg3 t) }

theorem cutsG {B : Nat} {b g p2 : Nat} {U : Dk} {r : Nat} {s t : ByteArray} {f : Int} (h : En s t f U r) (W : World) (hG : GAt B W p2 b g (opened U.begin.begin (r, (r : Int)))) :
    Calls Tryz.prog 16 #[.pointer (some ⟨p2, 0, none⟩), .int .i64 (r : Nat)] W fun e w' => e = .returned (.bool true) ∧ GAt B w' p2 b g (qM U r) ∧ On B W w' := by
  rcases h.which with ⟨rfl, _⟩ | ⟨rfl, _⟩
  · exact mark_yes hG 2 (by show 2 < U.secs.length; rw [h.len]; decide) rfl
  · exact mark_yes hG 3 (by show 3 < U.secs.length; rw [h.len]; decide) rfl

theorem cutsH {B : Nat} {b g p2 kb : Nat} {U : Dk} {r : Nat} {s t : ByteArray} {f : Int} (hs : s.size ≤ 100) (h : En s t f U r) (W : World) (hG : GAt B W p2 b g (qM U r)) (hB : B ≤ W.heap.size) (hkb : W.heap[kb]? = some (.cells #[.int .i64 2] 3)) :
    Calls Tryz.prog 21 #[.pointer (some ⟨p2, 0, none⟩), .int .i64 2, .slice (some ⟨kb, 0, none⟩) 1 1] W fun e w' => e = .returned (.tuple #[.agg #[.int .i64 2, .int .i64 2, .int .u64 2, .string s], .int .i64 0]) ∧ GAt B w' p2 b g (qR U r s) ∧ On B W w' := by
  obtain ⟨a, rfl, rfl, k⟩ := hG.out
  have lv : Liv (qM U r).disk 1 := ⟨h.flu.up, by intro c r' e; rw [show (qM U r).disk.cuts = [] from h.cuts] at e; cases e⟩
  have ok : Ok 42 (qM U r).disk := D.begin_ok (D.begin_ok h.ok)
  have fl : Flu (qM U r).disk := begin_flu (begin_flu h.flu)
  have hsec : (qM U r).disk.secs[2]? = some ⟨whole (secOf (mp2 s) 2), false, 0⟩ := h.s2
  have F : ∀ W', D.Kept W W' → Calls Tryz.prog 36 #[.pointer (some ⟨p2, 0, none⟩), .int .i64 ((2 : Nat) : Int)] W' fun e w' => e = .returned (.tuple #[(pg2 s).val, .int .i64 0]) ∧ GA B w' p2 a (qR U r s) ∧ On B W' w' := by
    by_cases hU : U.fails = 0
    · have := look_kept k hB ok (by decide) 2 (by decide) (by decide) rfl (show 0 = U.fails by rw [hU]) rfl fl lv (M := mp2 s) (k := 2) (g := 2) (s := s) rfl (by decide) (by decide) (by omega) (by decide) hsec
      have e : qR U r s = { qM U r with disk := (qM U r).disk.begin, held := putM (qM U r).held 2 ⟨2, (2 : Nat), 2, s⟩ } := by unfold qR; rw [hU]; rfl
      rw [e]
      exact this
    · exact look_new k hB ok (by decide) 2 (by decide) (by decide) rfl (show ¬ U.fails = 0 from hU) fl lv (M := mp2 s) (k := 2) (g := 2) (s := s) rfl (by decide) (by decide) (by omega) (by decide) hsec
  refine (read_yes (n := 2) hB hkb _ F rfl).mono ?_
  rintro e w' ⟨rfl, g', n⟩
  exact ⟨rfl, ⟨a, rfl, rfl, g'⟩, n⟩

theorem cutsI {B : Nat} {b g p2 kb : Nat} {U : Dk} {s t : ByteArray} {f : Int} (ht : t.size ≤ 100) (h : En s t f U 3) (W : World) (hG : GAt B W p2 b g (qR U 3 s)) (hB : B ≤ W.heap.size) (hkb : W.heap[kb]? = some (.cells #[.int .i64 3] 3)) :
    Calls Tryz.prog 21 #[.pointer (some ⟨p2, 0, none⟩), .int .i64 3, .slice (some ⟨kb, 0, none⟩) 1 1] W fun e w' => e = .returned (.tuple #[.agg #[.int .i64 3, .int .i64 3, .int .u64 3, .string t], .int .i64 0]) ∧ GAt B w' p2 b g (qS U 3 s t) ∧ On B W w' := by
  obtain ⟨a, rfl, rfl, k⟩ := hG.out
  have lv : Liv (qR U 3 s).disk 1 := ⟨h.flu.up, by intro c r' e; rw [show (qR U 3 s).disk.cuts = [] from h.cuts] at e; cases e⟩
  have ok : Ok 43 (qR U 3 s).disk := D.begin_ok (D.begin_ok (D.begin_ok h.ok))
  have fl : Flu (qR U 3 s).disk := begin_flu (begin_flu (begin_flu h.flu))
  have hsec : (qR U 3 s).disk.secs[3]? = some ⟨whole (secOf (mp3 t) 3), false, 0⟩ := by
    rcases h.which with ⟨h3, _⟩ | ⟨_, h3, _⟩
    · exact absurd h3 (by decide)
    · exact h3
  have F := look_kept k hB ok (by decide) 3 (by decide) (by decide) rfl (show U.fails = U.fails from rfl) rfl fl lv (M := mp3 t) (k := 3) (g := 3) (s := t) rfl (by decide) (by decide) (by omega) (by decide) hsec
  refine (read_yes (n := 3) hB hkb _ F rfl).mono ?_
  rintro e w' ⟨rfl, g', n⟩
  exact ⟨rfl, ⟨a, rfl, rfl, g'⟩, n⟩
end Go.Proofs.YthlhnjjofefgcaaGreatDoor.G

namespace Go.Proofs.YthlhnjjofefgcaaGreatDoor.G
open Go.ChangeShapes Go.WideShapes Go.ChangeAt Go.RowKit
open D (Dk Ok DiskAt Sec Wr Ct CutsAt FatesAt whole)
open P (bs supL Sup supP Small)

theorem cut_text (s : ByteArray) (m : Nat) : ∃ T, s.extract 0 (min (s.size : Int) (m : Int)).toNat = T ∧ T.size ≤ m := by
  refine ⟨_, rfl, ?_⟩
  rw [ByteArray.size_extract]
  omega

theorem cut_row {B base : Nat} {w : World} {v : Value} {x : Int} {vf : Value} {l : List Int} (h : w.ownsRow base 48 2 v 1 [.int .i64 x, vf]) (hf : FatesAt B w vf l) : CutsAt B w v [⟨x, l⟩] := by
  rcases h.2 with ⟨_, hn⟩ | ⟨g, cap, cur, rfl, h1, h2, h3, h4, h5, h6⟩
  · cases hn
  · refine ⟨some ⟨g, 0, none⟩, cap, rfl, h3, h4, fun j hj => ?_⟩
    have hj0 : j = 0 := by simpa using hj
    subst hj0
    have c0 := h.cells (g := g) rfl 0 (.int .i64 x) rfl
    have c1 := h.cells (g := g) rfl 1 vf rfl
    refine ⟨g, 0, vf, rfl, .inr ⟨_, _, _, h2, D.calm48⟩, ?_, ?_, hf⟩
    · simpa [Addr.add_lit] using c0
    · simpa [Addr.add_lit] using c1

theorem gkept {W W' : World} {B b g p : Nat} {q : Pq} (hG : GAt B W p b g q) (hK : D.Kept W W') : GAt B W' p b g q := by
  obtain ⟨a, e1, e2, k⟩ := hG.out; exact ⟨a, e1, e2, k.kept hK⟩
theorem gdisk {W : World} {B b g p : Nat} {q : Pq} (hG : GAt B W p b g q) : DiskAt B W b g q.disk := by
  obtain ⟨a, e1, e2, k⟩ := hG.out; rw [← e1, ← e2]; exact k.disk

theorem two_cells (W : World) (a b : Value) (n : Nat) (hn : W.heap.size = n) : ∀ j u, [a, b][j]? = some u → (W.alloc (.cells #[a, b] 48)).cell? ((⟨n, 0, none⟩ : Addr).add j) = some u := by
  subst hn
  intro j u hj
  rcases j with _ | _ | j
  · rw [← hj]; simp [Addr.add_lit]
  · rw [← hj]; simp [Addr.add_lit]
  · simp at hj

theorem st_walk {B : Nat} {W : World} {p b g : Nat} {q : Pq} (r : Int) (hG : GAt B W p b g q) (h1 : ((q.gen : Nat) : Int) = r) (h2 : q.root = r) : Calls Tryz.prog 20 #[.pointer (some ⟨p, 0, none⟩)] W fun e w' => e = .returned (.agg #[.int .u64 r, .int .i64 r]) ∧ GAt B w' p b g q ∧ D.Kept W w' := by
  refine (state_walk hG).mono ?_
  rintro e w' ⟨rfl, K⟩
  rw [h1, h2]
  exact ⟨rfl, gkept hG K, K⟩

theorem plan_cut (s t : ByteArray) (c : Ct) (k : Nat) (hk : k < 4) (hc : c.at_ = 11 + (k : Int)) {d : Dk} (hb : Bg 9 [c] d) : ∃ d2 d3 bb, wrt (mp2 s) d (keysOf (mp2 s)) 2 2 = (d2, 0, false) ∧ C2 s [c] d2 ∧ wrt (mp3 t) d2 (keysOf (mp3 t)) 3 3 = (d3, 40, bb) ∧ (En s t 40 d3.up 2 ∨ (En s t 40 d3.up 3 ∧ 0 < d3.up.fails)) := by
  obtain ⟨d2, e2, c2⟩ := c2_of s hb ⟨hb.flu.up, by intro c' r e; rw [hb.cuts] at e; injection e with e _; subst e; rw [hc, hb.since]; omega⟩
  obtain ⟨d3, bb, r, e3, en⟩ := en_cut s t c k hk hc c2
  refine ⟨d2, d3, bb, e2, c2, e3, ?_⟩
  rcases en.which with ⟨rfl, _⟩ | ⟨rfl, _, h⟩
  · exact .inl en
  · exact .inr ⟨en, h.resolve_left (by decide)⟩
theorem plan_ok (s t : ByteArray) {d : Dk} (hb : Bg 9 [] d) : ∃ d2 d3, wrt (mp2 s) d (keysOf (mp2 s)) 2 2 = (d2, 0, false) ∧ C2 s [] d2 ∧ wrt (mp3 t) d2 (keysOf (mp3 t)) 3 3 = (d3, 0, false) ∧ En s t 0 d3.up 3 := by
  obtain ⟨d2, e2, c2⟩ := c2_of s hb ⟨hb.flu.up, by intro c' r e; rw [hb.cuts] at e; cases e⟩
  obtain ⟨d3, e3, en⟩ := en_ok s t c2
  exact ⟨d2, d3, e2, c2, e3, en⟩

set_option maxRecDepth 100000 in
set_option maxHeartbeats 4000000 in
theorem cuts_walk (sa sb : ByteArray) (x : Int) (vf : Value) (l : List Int) (w : World) (hL : S.Lds w) (hf : FatesAt w.heap.size w vf l) (hl : l.length * 8 ≤ 140737488355328) :
    Calls Tryz.prog 4 #[.string sa, .string sb, .agg #[.int .i64 x, vf]] w fun e w' => e = .returned (.bool true) ∧ D.Kept w w' := by
  obtain ⟨k, hk, ek⟩ := D.low 3 7 (by omega) (by decide) x
  have ek' : bits .and .i64 x 7 = (k : Int) := ek
  have hk8 : k < 8 := hk
  obtain ⟨s, hs, hs100⟩ := cut_text sa 100
  obtain ⟨t, ht, ht100⟩ := cut_text sb 100
  have hs' : sa.extract 0 (min (sa.size : Int) 100).toNat = s := hs
  have ht' : sb.extract 0 (min (sb.size : Int) 100).toNat = t := ht
  clear ek hk hs ht
  obtain ⟨pf, cf, rfl, _⟩ := hf.out
  have hfd0 : ∀ (W : World) (x r : Int), (Instr.field 52 (.agg #[.int .u64 x, .int .i64 r]) 0).run Tryz.prog W = .ok (.int .u64 x) W := fun _ _ _ => by kernel_rfl
  have hfd1 : ∀ (W : World) (x r : Int), (Instr.field 52 (.agg #[.int .u64 x, .int .i64 r]) 1).run Tryz.prog W = .ok (.int .i64 r) W := fun _ _ _ => by kernel_rfl
  by_cases h4 : k < 4
  · obtain ⟨i0, hi, hz0, hz1, hz2⟩ := info_parts D.info48
    go_enter Tryz.func4, Tryz.ntmps4
    go_wp2
    go_quiet (fail)
    have hW : D.Kept w ((w.alloc (.cells #[.int .i64 x, .slice pf l.length cf] 48)).drewN nq) := ((D.Kept.refl w).alloc _).drewN nq
    have hP : ((w.alloc (.cells #[.int .i64 x, .slice pf l.length cf] 48)).drewN nq).heap[w.heap.size]? = some (.cells #[.int .i64 x, .slice pf l.length cf] 48) := heap_alloc_new w _
    generalize (w.alloc (.cells #[.int .i64 x, .slice pf l.length cf] 48)).drewN nq = W0 at hW hP ⊢
    have q0 : W0.cell? ⟨w.heap.size, 0, none⟩ = some (.int .i64 x) := by rw [cell_of_row W0 _ _ _ _ _ hP]; rfl
    have q1 : W0.cell? ⟨w.heap.size, 1, none⟩ = some (.slice pf l.length cf) := by rw [cell_of_row W0 _ _ _ _ _ hP]; rfl
    have qa0 : ∀ o, (W0.alloc o).cell? ⟨w.heap.size, 0, none⟩ = some (.int .i64 x) := fun o => Lib.cell?_alloc_some o q0
    have qa1 : ∀ o, (W0.alloc o).cell? ⟨w.heap.size, 1, none⟩ = some (.slice pf l.length cf) := fun o => Lib.cell?_alloc_some o q1
    have hW2 : D.Kept w ((W0.alloc (.cells #[] 48)).alloc (.cells #[.int .i64 (11 + (k : Int)), .slice pf l.length cf] 48)) := (hW.alloc _).alloc _
    have qn := two_cells (W0.alloc (.cells #[] 48)) (.int .i64 (11 + (k : Int))) (.slice pf l.length cf) (W0.heap.size + 1) (by show (W0.heap.push _).size = _; rw [Array.size_push])
    have qo : ∀ u ∈ [Value.int .i64 (11 + (k : Int)), .slice pf l.length cf], u.oneCell' = true := by intro u hu; simp at hu; rcases hu with rfl | rfl <;> rfl
    go_wp2_with (first
      | (at_builtin; refine wpList_append_own _ rfl _ _ 49 rfl w.heap.size 48 i0 (.agg #[.int .i64 0, .slice none 0 0]) 2 32 Tryz.underlying49 hi hz0 hz1 hz2 rfl (by decide) _ _ _ rfl ((World.ownsRow_made W0 #[] 0 hW.size (Nat.zero_le _) rfl).alloc _) ⟨W0.heap.size + 1, 0, none⟩ 1 1 [.int .i64 (11 + (k : Int)), .slice pf l.length cf] rfl rfl qn qo (by decide) (by decide) hW2.size ?_; intro v1 w1 ow gw _; have K1 : D.Kept w w1 := ⟨hW2.out.grown gw hW2.size (fun _ e => by cases e; exact hW.size)⟩; have f7 : Calls Tryz.prog 7 #[.int .i64 9, v1] w1 _ := begun_walk 9 (by decide) (by decide) (cut_row ow (hf.on (K1.on (Nat.le_refl _)))) K1.size (by simp) (by intro c hc; simp at hc; subst hc; exact hl) ⟨rfl, by intro c r e; injection e with e _; subst e; show ((0 + 7 : Nat) : Int) ≤ 11 + (k : Int); omega⟩; clear ow gw)
      | (go_at_call 7; (with_reducible refine f7.mono ?_); rintro e w2 ⟨b, g, p, d, rfl, hbg, hG2a, K2⟩; obtain ⟨B, hG2, hwB, hB2⟩ : ∃ B, GAt B w2 p b g (opened d (1, -1)) ∧ w.heap.size ≤ B ∧ B ≤ w2.heap.size := ⟨_, hG2a, K1.size, K2.size⟩; have b2 : Below w.heap.size w w2 := (K1.trans K2).out; have f8 := awake_walk w2 (lds_kept hL ⟨b2⟩); clear f7 hG2a))
    obtain ⟨d2, d3, bb, e2, c2, e3, en | ⟨en, hfa⟩⟩ := plan_cut s t ⟨11 + (k : Int), l⟩ k h4 rfl hbg
    · go_wp2_with (first
        | (go_at_call 8; (with_reducible refine f8.mono ?_); rintro e w3 ⟨rfl, K3⟩; have b3 := b2.trans (K3.out.mono b2.size); have hB3 := Nat.le_trans hB2 K3.size; have hG3 := gkept hG2 K3; have f10 := cutsA hbg s hs100 w3 hG3 hB3 (lds_kept hL ⟨b3⟩); clear f8)
        | (go_at_call 10; (with_reducible refine f10.mono ?_); rintro e w4 ⟨rfl, hG4, n4⟩; have b4 := b3.trans (n4.below.mono hwB); have hB4 := Nat.le_trans hB3 n4.size; have f13 := cutsB hbg s e2 w4 hG4 hB4; clear f10)
        | (go_at_call 13; (with_reducible refine f13.mono ?_); rintro e w5 ⟨rfl, hG5, n5⟩; have b5 := b4.trans (n5.below.mono hwB); have hB5 := Nat.le_trans hB4 n5.size; have g10 := cutsC hbg s t ht100 w5 hG5 hB5 (lds_kept hL ⟨b5⟩); clear f13)
        | (go_at_call 10; (with_reducible refine g10.mono ?_); rintro e w6 ⟨rfl, hG6, n6⟩; have b6 := b5.trans (n6.below.mono hwB); have hB6 := Nat.le_trans hB5 n6.size; have f11 := cutsD hbg s t w6 hG6 hB6; clear g10)
        | (go_at_call 11; (with_reducible refine f11.mono ?_); rintro e w7 ⟨rfl, hG7, n7⟩; have b7 := b6.trans (n7.below.mono hwB); have hB7 := Nat.le_trans hB6 n7.size; have g13 := cutsE s t c2 e3 (.inr (by decide)) w7 hG7 hB7; clear f11)
        | (go_at_call 13; (with_reducible refine g13.mono ?_); rintro e w8 ⟨rfl, hD8, n8⟩; have b8 := b7.trans (n8.below.mono hwB); have hB8 := Nat.le_trans hB7 n8.size; have f19 := D.up_walk hD8; clear g13)
        | (go_at_call 19; (with_reducible refine f19.mono ?_); rintro e w9 ⟨rfl, hD9, n9⟩; have b9 := b8.trans (n9.below.mono hwB); have hB9 := Nat.le_trans hB8 n9.size; have f15 := cutsF en w9 hD9 hB9; clear f19)
        | (go_at_call 15; (with_reducible refine f15.mono ?_); rintro e wA ⟨p2, rfl, hGA, nA⟩; have bA := b9.trans (nA.below.mono hwB); have hBA := Nat.le_trans hB9 nA.size; have f20 := st_walk 2 hGA rfl rfl; clear f15)
        | (go_at_call 20; (with_reducible refine f20.mono ?_); rintro e wB ⟨rfl, hGB, KB⟩; have bB := bA.trans (KB.out.mono bA.size); have hBB := Nat.le_trans hBA KB.size; have f16 : Calls Tryz.prog 16 #[.pointer (some ⟨p2, 0, none⟩), .int .i64 2] wB _ := cutsG en wB hGB; clear f20)
        | (go_at_call 16; (with_reducible refine f16.mono ?_); rintro e wC ⟨rfl, hGC, nC⟩; have bC := bB.trans (nC.below.mono hwB); have hBC := Nat.le_trans hBB nC.size; have KD : D.Kept wC (wC.alloc (.cells #[.int .i64 2] 3)) := (D.Kept.refl wC).alloc _; have hGD := gkept hGC KD; have hBD := Nat.le_trans hBC KD.size; have bD := bC.trans (KD.out.mono bC.size); have f21 := cutsH hs100 en _ hGD hBD (heap_alloc_new wC _); clear f16)
        | (go_at_call 21; (with_reducible refine f21.mono ?_); rintro e wE ⟨rfl, hGE, nE⟩; have bE := bD.trans (nE.below.mono hwB); have hBE := Nat.le_trans hBD nE.size; have KF : D.Kept wE (wE.alloc (.cells #[.int .i64 2, .int .i64 2, .int .u64 2, .string s] 55)) := (D.Kept.refl wE).alloc _; have hGF := gkept hGE KF; have hBF := Nat.le_trans hBE KF.size; have bF := bE.trans (KF.out.mono bE.size); have qF := heap_alloc_new wE (.cells #[.int .i64 2, .int .i64 2, .int .u64 2, .string s] 55); have g20 := st_walk 2 hGF rfl rfl; clear f21)
        | (go_at_call 20; (with_reducible refine g20.mono ?_); rintro e wG ⟨rfl, hGG, KG⟩; have bG := bF.trans (KG.out.mono bF.size); have hBG := Nat.le_trans hBF KG.size; have qG := KG.block qF; have h20 := st_walk 2 hGG rfl rfl; clear g20)
        | (go_at_call 20; (with_reducible refine h20.mono ?_); rintro e wH ⟨rfl, hGH, KH⟩; have bH := bG.trans (KH.out.mono bG.size); have hBH := Nat.le_trans hBG KH.size; have qH := KH.block qG; have cH : wH.cell? ⟨wE.heap.size, 3, none⟩ = some (.string s) := (by rw [cell_of_row wH _ _ _ _ _ qH]; rfl); clear h20))
      go_ret
      exact ⟨rfl, ⟨bH⟩⟩
    · go_wp2_with (first
        | (go_at_call 8; (with_reducible refine f8.mono ?_); rintro e w3 ⟨rfl, K3⟩; have b3 := b2.trans (K3.out.mono b2.size); have hB3 := Nat.le_trans hB2 K3.size; have hG3 := gkept hG2 K3; have f10 := cutsA hbg s hs100 w3 hG3 hB3 (lds_kept hL ⟨b3⟩); clear f8)
        | (go_at_call 10; (with_reducible refine f10.mono ?_); rintro e w4 ⟨rfl, hG4, n4⟩; have b4 := b3.trans (n4.below.mono hwB); have hB4 := Nat.le_trans hB3 n4.size; have f13 := cutsB hbg s e2 w4 hG4 hB4; clear f10)
        | (go_at_call 13; (with_reducible refine f13.mono ?_); rintro e w5 ⟨rfl, hG5, n5⟩; have b5 := b4.trans (n5.below.mono hwB); have hB5 := Nat.le_trans hB4 n5.size; have g10 := cutsC hbg s t ht100 w5 hG5 hB5 (lds_kept hL ⟨b5⟩); clear f13)
        | (go_at_call 10; (with_reducible refine g10.mono ?_); rintro e w6 ⟨rfl, hG6, n6⟩; have b6 := b5.trans (n6.below.mono hwB); have hB6 := Nat.le_trans hB5 n6.size; have f11 := cutsD hbg s t w6 hG6 hB6; clear g10)
        | (go_at_call 11; (with_reducible refine f11.mono ?_); rintro e w7 ⟨rfl, hG7, n7⟩; have b7 := b6.trans (n7.below.mono hwB); have hB7 := Nat.le_trans hB6 n7.size; have g13 := cutsE s t c2 e3 (.inr (by decide)) w7 hG7 hB7; clear f11)
        | (go_at_call 13; (with_reducible refine g13.mono ?_); rintro e w8 ⟨rfl, hD8, n8⟩; have b8 := b7.trans (n8.below.mono hwB); have hB8 := Nat.le_trans hB7 n8.size; have f19 := D.up_walk hD8; clear g13)
        | (go_at_call 19; (with_reducible refine f19.mono ?_); rintro e w9 ⟨rfl, hD9, n9⟩; have b9 := b8.trans (n9.below.mono hwB); have hB9 := Nat.le_trans hB8 n9.size; have f15 := cutsF en w9 hD9 hB9; clear f19)
        | (go_at_call 15; (with_reducible refine f15.mono ?_); rintro e wA ⟨p2, rfl, hGA, nA⟩; have bA := b9.trans (nA.below.mono hwB); have hBA := Nat.le_trans hB9 nA.size; have f20 := st_walk 3 hGA rfl rfl; clear f15)
        | (go_at_call 20; (with_reducible refine f20.mono ?_); rintro e wB ⟨rfl, hGB, KB⟩; have bB := bA.trans (KB.out.mono bA.size); have hBB := Nat.le_trans hBA KB.size; have f16 : Calls Tryz.prog 16 #[.pointer (some ⟨p2, 0, none⟩), .int .i64 3] wB _ := cutsG en wB hGB; clear f20)
        | (go_at_call 16; (with_reducible refine f16.mono ?_); rintro e wC ⟨rfl, hGC, nC⟩; have bC := bB.trans (nC.below.mono hwB); have hBC := Nat.le_trans hBB nC.size; have KD : D.Kept wC (wC.alloc (.cells #[.int .i64 2] 3)) := (D.Kept.refl wC).alloc _; have hGD := gkept hGC KD; have hBD := Nat.le_trans hBC KD.size; have bD := bC.trans (KD.out.mono bC.size); have f21 := cutsH hs100 en _ hGD hBD (heap_alloc_new wC _); clear f16)
        | (go_at_call 21; (with_reducible refine f21.mono ?_); rintro e wE ⟨rfl, hGE, nE⟩; have bE := bD.trans (nE.below.mono hwB); have hBE := Nat.le_trans hBD nE.size; have KF : D.Kept wE (wE.alloc (.cells #[.int .i64 2, .int .i64 2, .int .u64 2, .string s] 55)) := (D.Kept.refl wE).alloc _; have hGF := gkept hGE KF; have hBF := Nat.le_trans hBE KF.size; have bF := bE.trans (KF.out.mono bE.size); have qF := heap_alloc_new wE (.cells #[.int .i64 2, .int .i64 2, .int .u64 2, .string s] 55); have g20 := st_walk 3 hGF rfl rfl; clear f21)
        | (go_at_call 20; (with_reducible refine g20.mono ?_); rintro e wG ⟨rfl, hGG, KG⟩; have bG := bF.trans (KG.out.mono bF.size); have hBG := Nat.le_trans hBF KG.size; have KH : D.Kept wG (wG.alloc (.cells #[.int .i64 3] 3)) := (D.Kept.refl wG).alloc _; have hGH := gkept hGG KH; have hBH := Nat.le_trans hBG KH.size; have bH := bG.trans (KH.out.mono bG.size); have g21 := cutsI ht100 en _ hGH hBH (heap_alloc_new wG _); clear g20)
        | (go_at_call 21; (with_reducible refine g21.mono ?_); rintro e wI ⟨rfl, hGI, nI⟩; have bI := bH.trans (nI.below.mono hwB); have hBI := Nat.le_trans hBH nI.size; have KJ : D.Kept wI (wI.alloc (.cells #[.int .i64 3, .int .i64 3, .int .u64 3, .string t] 55)) := (D.Kept.refl wI).alloc _; have hGJ := gkept hGI KJ; have bJ := bI.trans (KJ.out.mono bI.size); have qJ := heap_alloc_new wI (.cells #[.int .i64 3, .int .i64 3, .int .u64 3, .string t] 55); have h20 := st_walk 3 hGJ rfl rfl; clear g21)
        | (go_at_call 20; (with_reducible refine h20.mono ?_); rintro e wK ⟨rfl, hGK, KK⟩; have qK := KK.block qJ; have bK := bJ.trans (KK.out.mono bJ.size); have i20 := st_walk 3 hGK rfl rfl; clear h20)
        | (go_at_call 20; (with_reducible refine i20.mono ?_); rintro e wL ⟨rfl, hGL, KL⟩; have qL := KL.block qK; have bL := bK.trans (KL.out.mono bK.size); have cL : wL.cell? ⟨wI.heap.size, 3, none⟩ = some (.string t) := (by rw [cell_of_row wL _ _ _ _ _ qL]; rfl); have f22 := D.fails_walk (gdisk hGL); obtain ⟨F, hF, hF0⟩ : ∃ F, (qS d3.up 3 s t).disk.fails = F ∧ (0 : Int) < (F : Int) := ⟨_, rfl, Int.ofNat_lt.2 hfa⟩; rw [hF] at f22; clear i20)
        | (go_at_call 22; (with_reducible refine f22.mono ?_); rintro e wM ⟨rfl, hwM⟩; rw [hwM]; clear hwM f22))
      go_ret
      rw [decide_eq_true (show 0 < F by omega)]
      exact ⟨rfl, ⟨bL⟩⟩
  · have hge : (4 : Int) ≤ (k : Int) := by omega
    go_enter Tryz.func4, Tryz.ntmps4
    go_wp2
    go_quiet (fail)
    have hW : D.Kept w ((w.alloc (.cells #[.int .i64 x, .slice pf l.length cf] 48)).drewN nq) := ((D.Kept.refl w).alloc _).drewN nq
    have hP : ((w.alloc (.cells #[.int .i64 x, .slice pf l.length cf] 48)).drewN nq).heap[w.heap.size]? = some (.cells #[.int .i64 x, .slice pf l.length cf] 48) := heap_alloc_new w _
    generalize (w.alloc (.cells #[.int .i64 x, .slice pf l.length cf] 48)).drewN nq = W0 at hW hP ⊢
    have q0 : W0.cell? ⟨w.heap.size, 0, none⟩ = some (.int .i64 x) := by rw [cell_of_row W0 _ _ _ _ _ hP]; rfl
    have q1 : W0.cell? ⟨w.heap.size, 1, none⟩ = some (.slice pf l.length cf) := by rw [cell_of_row W0 _ _ _ _ _ hP]; rfl
    have qa0 : ∀ o, (W0.alloc o).cell? ⟨w.heap.size, 0, none⟩ = some (.int .i64 x) := fun o => Lib.cell?_alloc_some o q0
    have qa1 : ∀ o, (W0.alloc o).cell? ⟨w.heap.size, 1, none⟩ = some (.slice pf l.length cf) := fun o => Lib.cell?_alloc_some o q1
    have K1 : D.Kept w (W0.alloc (.cells #[] 48)) := hW.alloc _
    have f7 : Calls Tryz.prog 7 #[.int .i64 9, .slice (some ⟨W0.heap.size, 0, none⟩) 0 0] (W0.alloc (.cells #[] 48)) _ := begun_walk 9 (by decide) (by decide) (⟨some ⟨W0.heap.size, 0, none⟩, 0, rfl, Nat.le_refl _, Nat.zero_le _, fun j hj => by cases hj⟩ : CutsAt w.heap.size (W0.alloc (.cells #[] 48)) (.slice (some ⟨W0.heap.size, 0, none⟩) 0 0) []) K1.size (Nat.zero_le _) (by intro _ h; cases h) ⟨rfl, by intro _ _ h; cases h⟩
    go_wp2_with (go_at_call 7; (with_reducible refine f7.mono ?_); rintro e w2 ⟨b, g, p, d, rfl, hbg, hG2a, K2⟩; obtain ⟨B, hG2, hwB, hB2⟩ : ∃ B, GAt B w2 p b g (opened d (1, -1)) ∧ w.heap.size ≤ B ∧ B ≤ w2.heap.size := ⟨_, hG2a, K1.size, K2.size⟩; have b2 : Below w.heap.size w w2 := (K1.trans K2).out; have f8 := awake_walk w2 (lds_kept hL ⟨b2⟩); clear f7 hG2a)
    obtain ⟨d2, d3, e2, c2, e3, en⟩ := plan_ok s t hbg
    go_wp2_with (first
      | (go_at_call 8; (with_reducible refine f8.mono ?_); rintro e w3 ⟨rfl, K3⟩; have b3 := b2.trans (K3.out.mono b2.size); have hB3 := Nat.le_trans hB2 K3.size; have hG3 := gkept hG2 K3; have f10 := cutsA hbg s hs100 w3 hG3 hB3 (lds_kept hL ⟨b3⟩); clear f8)
      | (go_at_call 10; (with_reducible refine f10.mono ?_); rintro e w4 ⟨rfl, hG4, n4⟩; have b4 := b3.trans (n4.below.mono hwB); have hB4 := Nat.le_trans hB3 n4.size; have f13 := cutsB hbg s e2 w4 hG4 hB4; clear f10)
      | (go_at_call 13; (with_reducible refine f13.mono ?_); rintro e w5 ⟨rfl, hG5, n5⟩; have b5 := b4.trans (n5.below.mono hwB); have hB5 := Nat.le_trans hB4 n5.size; have g10 := cutsC hbg s t ht100 w5 hG5 hB5 (lds_kept hL ⟨b5⟩); clear f13)
      | (go_at_call 10; (with_reducible refine g10.mono ?_); rintro e w6 ⟨rfl, hG6, n6⟩; have b6 := b5.trans (n6.below.mono hwB); have hB6 := Nat.le_trans hB5 n6.size; have f11 := cutsD hbg s t w6 hG6 hB6; clear g10)
      | (go_at_call 11; (with_reducible refine f11.mono ?_); rintro e w7 ⟨rfl, hG7, n7⟩; have b7 := b6.trans (n7.below.mono hwB); have hB7 := Nat.le_trans hB6 n7.size; have g13 := cutsE s t c2 e3 (.inl ⟨rfl, rfl⟩) w7 hG7 hB7; clear f11)
      | (go_at_call 13; (with_reducible refine g13.mono ?_); rintro e w8 ⟨rfl, hD8, n8⟩; have b8 := b7.trans (n8.below.mono hwB); have hB8 := Nat.le_trans hB7 n8.size; have f19 := D.up_walk hD8; clear g13)
      | (go_at_call 19; (with_reducible refine f19.mono ?_); rintro e w9 ⟨rfl, hD9, n9⟩; have b9 := b8.trans (n9.below.mono hwB); have hB9 := Nat.le_trans hB8 n9.size; have f15 := cutsF en w9 hD9 hB9; clear f19)
      | (go_at_call 15; (with_reducible refine f15.mono ?_); rintro e wA ⟨p2, rfl, hGA, nA⟩; have bA := b9.trans (nA.below.mono hwB); have hBA := Nat.le_trans hB9 nA.size; have f20 := st_walk 3 hGA rfl rfl; clear f15)
      | (go_at_call 20; (with_reducible refine f20.mono ?_); rintro e wB ⟨rfl, hGB, KB⟩; have bB := bA.trans (KB.out.mono bA.size); have hBB := Nat.le_trans hBA KB.size; have f16 : Calls Tryz.prog 16 #[.pointer (some ⟨p2, 0, none⟩), .int .i64 3] wB _ := cutsG en wB hGB; clear f20)
      | (go_at_call 16; (with_reducible refine f16.mono ?_); rintro e wC ⟨rfl, hGC, nC⟩; have bC := bB.trans (nC.below.mono hwB); have hBC := Nat.le_trans hBB nC.size; have KD : D.Kept wC (wC.alloc (.cells #[.int .i64 2] 3)) := (D.Kept.refl wC).alloc _; have hGD := gkept hGC KD; have hBD := Nat.le_trans hBC KD.size; have bD := bC.trans (KD.out.mono bC.size); have f21 := cutsH hs100 en _ hGD hBD (heap_alloc_new wC _); clear f16)
      | (go_at_call 21; (with_reducible refine f21.mono ?_); rintro e wE ⟨rfl, hGE, nE⟩; have bE := bD.trans (nE.below.mono hwB); have hBE := Nat.le_trans hBD nE.size; have KF : D.Kept wE (wE.alloc (.cells #[.int .i64 2, .int .i64 2, .int .u64 2, .string s] 55)) := (D.Kept.refl wE).alloc _; have hGF := gkept hGE KF; have hBF := Nat.le_trans hBE KF.size; have bF := bE.trans (KF.out.mono bE.size); have qF := heap_alloc_new wE (.cells #[.int .i64 2, .int .i64 2, .int .u64 2, .string s] 55); have g20 := st_walk 3 hGF rfl rfl; clear f21)
      | (go_at_call 20; (with_reducible refine g20.mono ?_); rintro e wG ⟨rfl, hGG, KG⟩; have bG := bF.trans (KG.out.mono bF.size); have hBG := Nat.le_trans hBF KG.size; have KH : D.Kept wG (wG.alloc (.cells #[.int .i64 3] 3)) := (D.Kept.refl wG).alloc _; have hGH := gkept hGG KH; have hBH := Nat.le_trans hBG KH.size; have bH := bG.trans (KH.out.mono bG.size); have g21 := cutsI ht100 en _ hGH hBH (heap_alloc_new wG _); clear g20)
      | (go_at_call 21; (with_reducible refine g21.mono ?_); rintro e wI ⟨rfl, hGI, nI⟩; have bI := bH.trans (nI.below.mono hwB); have hBI := Nat.le_trans hBH nI.size; have KJ : D.Kept wI (wI.alloc (.cells #[.int .i64 3, .int .i64 3, .int .u64 3, .string t] 55)) := (D.Kept.refl wI).alloc _; have hGJ := gkept hGI KJ; have bJ := bI.trans (KJ.out.mono bI.size); have qJ := heap_alloc_new wI (.cells #[.int .i64 3, .int .i64 3, .int .u64 3, .string t] 55); have h20 := st_walk 3 hGJ rfl rfl; clear g21)
      | (go_at_call 20; (with_reducible refine h20.mono ?_); rintro e wK ⟨rfl, hGK, KK⟩; have qK := KK.block qJ; have bK := bJ.trans (KK.out.mono bJ.size); have i20 := st_walk 3 hGK rfl rfl; clear h20)
      | (go_at_call 20; (with_reducible refine i20.mono ?_); rintro e wL ⟨rfl, hGL, KL⟩; have qL := KL.block qK; have bL := bK.trans (KL.out.mono bK.size); have cL : wL.cell? ⟨wI.heap.size, 3, none⟩ = some (.string t) := (by rw [cell_of_row wL _ _ _ _ _ qL]; rfl); clear i20))
    go_ret
    exact ⟨rfl, ⟨bL⟩⟩
end Go.Proofs.YthlhnjjofefgcaaGreatDoor.G

namespace Go.Proofs.YthlhnjjofefgcaaGreatDoor.G
open Go.ChangeShapes Go.WideShapes Go.ChangeAt Go.RowKit

structure Pge where
  n : Nat
  kind : Int
  s : ByteArray

def Pge.cells (x : Pge) : List Value := [.int .i64 (x.n : Nat), .int .i64 x.kind, .string x.s]
def flat (l : List Pge) : List Value := l.flatMap Pge.cells
theorem flat_len (l : List Pge) : (flat l).length = l.length * 3 := by
  induction l with
  | nil => rfl
  | cons x r ih => simp only [flat, List.flatMap_cons, List.length_append, List.length_cons] at ih ⊢; rw [ih]; simp [Pge.cells]; omega
theorem flat_append (l k : List Pge) : flat (l ++ k) = flat l ++ flat k := by simp [flat]
theorem flat_get : ∀ (l : List Pge) (i j : Nat) (x : Pge), l[i]? = some x → j < 3 → (flat l)[i * 3 + j]? = x.cells[j]?
  | [], i, j, x, h, _ => by simp at h
  | y :: r, 0, j, x, h, hj => by
    simp at h; subst h
    simp only [flat, List.flatMap_cons, Nat.zero_mul, Nat.zero_add]
    rw [List.getElem?_append_left (by simp [Pge.cells]; omega)]
  | y :: r, i + 1, j, x, h, hj => by
    have ih := flat_get r i j x (by simpa using h) hj
    simp only [flat, List.flatMap_cons] at ih ⊢
    rw [List.getElem?_append_right (by simp [Pge.cells]; omega)]
    rw [show (i + 1) * 3 + j - (Pge.cells y).length = i * 3 + j by simp [Pge.cells]; omega]
    exact ih

structure PL (B : Nat) (w : World) (g c : Nat) (l : List Pge) : Prop where
  row : w.ownsRow B 36 3 (.slice (some ⟨g, 0, none⟩) l.length c) l.length (flat l)

theorem PL.cell {B : Nat} {w : World} {g c : Nat} {l : List Pge} (h : PL B w g c l) {i : Nat} {x : Pge} (hi : l[i]? = some x) :
    w.cell? ⟨g, i * 3, none⟩ = some (.int .i64 (x.n : Nat)) ∧ w.cell? ⟨g, i * 3 + 1, none⟩ = some (.int .i64 x.kind) ∧ w.cell? ⟨g, i * 3 + 2, none⟩ = some (.string x.s) := by
  have a0 := h.row.cells (g := g) rfl (i * 3) _ (flat_get l i 0 x hi (by omega))
  have a1 := h.row.cells (g := g) rfl (i * 3 + 1) _ (flat_get l i 1 x hi (by omega))
  have a2 := h.row.cells (g := g) rfl (i * 3 + 2) _ (flat_get l i 2 x hi (by omega))
  simp only [Addr.add_lit, Nat.zero_add] at a0 a1 a2
  exact ⟨a0, a1, a2⟩
theorem PL.blk {B : Nat} {w : World} {g c : Nat} {l : List Pge} (h : PL B w g c l) : ∃ cur, w.heap[g]? = some (.cells cur 36) ∧ B ≤ g ∧ l.length ≤ c ∧ c ≤ maxLen ∧ cur.size = c * 3 ∧ cur.toList.take (l.length * 3) = flat l := by
  rcases h.row.2 with ⟨e, _⟩ | ⟨g', cap, cur, e, h1, h2, h3, h4, h5, h6⟩
  · cases e
  · injection e with e1 _ e2
    injection e1 with e1
    injection e1 with e1
    subst e1 e2
    exact ⟨cur, h2, h1, h3, h4, h5, h6⟩
theorem PL.mk' {B : Nat} {w : World} {g c : Nat} {l : List Pge} {cur : Array Value} (h2 : w.heap[g]? = some (.cells cur 36)) (h1 : B ≤ g) (h3 : l.length ≤ c) (h4 : c ≤ maxLen) (h5 : cur.size = c * 3) (h6 : cur.toList.take (l.length * 3) = flat l) : PL B w g c l :=
  ⟨⟨flat_len l, .inr ⟨g, c, cur, rfl, h1, h2, h3, h4, h5, h6⟩⟩⟩
theorem PL.same {B : Nat} {w w' : World} {g c : Nat} {l : List Pge} (h : PL B w g c l) (e : w'.heap[g]? = w.heap[g]?) : PL B w' g c l := by
  obtain ⟨cur, h2, h1, h3, h4, h5, h6⟩ := h.blk
  exact .mk' (e.trans h2) h1 h3 h4 h5 h6
theorem PL.kept {B : Nat} {w w' : World} {g c : Nat} {l : List Pge} (h : PL B w g c l) (k : D.Kept w w') : PL B w' g c l := by
  obtain ⟨cur, h2, h1, h3, h4, h5, h6⟩ := h.blk
  exact .mk' (k.block h2) h1 h3 h4 h5 h6
theorem calm36 : Calm 36 := by unfold Calm D.Calm; decide
theorem far36 : Far 36 := by unfold Far D.Quiet; decide
theorem PL.on {B B' : Nat} {w w' : World} {g c : Nat} {l : List Pge} (h : PL B w g c l) (k : On B' w w') : PL B w' g c l := by
  obtain ⟨cur, h2, h1, h3, h4, h5, h6⟩ := h.blk
  exact .mk' (k.rows _ _ _ _ h2 calm36) h1 h3 h4 h5 h6
theorem PL.mono {B B' : Nat} {w : World} {g c : Nat} {l : List Pge} (h : PL B w g c l) (k : B' ≤ B) : PL B' w g c l := by
  obtain ⟨cur, h2, h1, h3, h4, h5, h6⟩ := h.blk
  exact .mk' h2 (Nat.le_trans k h1) h3 h4 h5 h6
theorem PL.lt {B : Nat} {w : World} {g c : Nat} {l : List Pge} (h : PL B w g c l) : g < w.heap.size := by
  obtain ⟨cur, h2, _⟩ := h.blk
  exact (Array.getElem?_eq_some_iff.1 h2).1

theorem info36 : (Tryz.prog.info? 36).map (fun i => (i.zero, i.size, i.bytes)) = some (some (.agg #[.int .i64 0, .int .i64 0, .string ⟨#[]⟩]), 3, 32) := by kernel_rfl

def without (l : List Pge) (n : Nat) : List Pge := l.filter (fun x => !decide (x.n = n))

theorem take_next {l : List Pge} {i : Nat} {x : Pge} (h : l[i]? = some x) : l.take (i + 1) = l.take i ++ [x] := by
  obtain ⟨hi, rfl⟩ := List.getElem?_eq_some_iff.1 h
  rw [List.take_succ_eq_append_getElem hi]

theorem three_cells (W : World) (a b c : Value) (n : Nat) (hn : W.heap.size = n) : ∀ j u, [a, b, c][j]? = some u → (W.alloc (.cells #[a, b, c] 36)).cell? ((⟨n, 0, none⟩ : Addr).add j) = some u := by
  subst hn
  intro j u hj
  rcases j with _ | _ | _ | j
  · rw [← hj]; simp [Addr.add_lit]
  · rw [← hj]; simp [Addr.add_lit]
  · rw [← hj]; simp [Addr.add_lit]
  · simp at hj
theorem one_cells (a : Int) (b : Int) (c : ByteArray) : ∀ u ∈ [Value.int .i64 a, .int .i64 b, .string c], u.oneCell' = true := by
  intro u hu; simp at hu; rcases hu with rfl | rfl | rfl <;> rfl

set_option maxRecDepth 100000 in
set_option maxHeartbeats 4000000 in
theorem without_walk {w : World} {B g c : Nat} {l : List Pge} (h : PL B w g c l) (n : Nat) (hl : l.length ≤ 100) : Calls Tryz.prog 12 #[.slice (some ⟨g, 0, none⟩) l.length c, .int .i64 (n : Nat)] w fun e w' =>
    ∃ g' c', e = .returned (.slice (some ⟨g', 0, none⟩) (without l n).length c') ∧ PL w.heap.size w' g' c' (without l n) ∧ D.Kept w w' := by
  obtain ⟨i0, hi, hz0, hz1, hz2⟩ := info_parts info36
  have hl' : (l.length : Int) ≤ 100 := by omega
  have HP : Hid (PL B w g c l) := h
  have H0 : Hid (PL w.heap.size (w.alloc (.cells #[] 36)) w.heap.size 0 (without (l.take 0) n) ∧ D.Kept w (w.alloc (.cells #[] 36))) :=
    ⟨PL.mk' (cur := #[]) (heap_alloc_new w _) (Nat.le_refl _) (Nat.zero_le _) (Nat.zero_le _) rfl rfl, (D.Kept.refl w).alloc _⟩
  clear h
  go_enter Tryz.func12, Tryz.ntmps12
  go_wp2
  go_loopg [5, 6] l.length (fun m v x wx => ∃ i : Nat, i + m = l.length ∧ x = .int .i64 i ∧ ∃ g' c', v = .slice (some ⟨g', 0, none⟩) (without (l.take i) n).length c' ∧ PL w.heap.size wx g' c' (without (l.take i) n) ∧ D.Kept w wx)
  case atStart => exact ⟨0, by omega, rfl, w.heap.size, 0, rfl, H0.out.1, H0.out.2⟩
  case round =>
    obtain ⟨i, hin, rfl, g', c', rfl, hP, hK⟩ := hrel
    by_cases hlt : i < l.length
    · obtain ⟨x, hx⟩ : ∃ x, l[i]? = some x := ⟨l[i], List.getElem?_eq_getElem hlt⟩
      obtain ⟨c0, c1, c2⟩ := (HP.out.kept hK).cell hx
      have HX : Hid (l[i]? = some x) := hx
      have i1 : (0 : Int) ≤ (i : Int) := by omega
      have i2 : (i : Int) < (l.length : Int) := by omega
      have HQ : Hid (PL w.heap.size wr g' c' (without (l.take i) n)) := hP
      have hwl : (without (l.take i) n).length ≤ 100 := Nat.le_trans (List.length_filter_le _ _) (by rw [List.length_take]; omega)
      clear hx hP
      obtain ⟨xn, xk, xs⟩ := x
      dsimp only at c0 c1 c2
      by_cases hxn : xn = n
      · subst hxn
        go_wp2
        obtain ⟨n', rfl⟩ : ∃ n', gk = n' + 1 := ⟨gk - 1, by omega⟩
        go_roundg n'
        case measure => omega
        case rel =>
          have e : without (l.take (i + 1)) xn = without (l.take i) xn := by rw [take_next HX.out]; simp [without]
          refine ⟨i + 1, by omega, by go_num, g', c', ?_, ?_, hK⟩
          · rw [e]
          · rw [e]; exact HQ.out
      · have hxi : ¬ ((xn : Int) = (n : Int)) := by omega
        have e : without (l.take (i + 1)) n = without (l.take i) n ++ [⟨xn, xk, xs⟩] := by rw [take_next HX.out]; simp [without, hxn]
        have HE : Hid (without (l.take (i + 1)) n = without (l.take i) n ++ [⟨xn, xk, xs⟩]) := e
        clear e
        generalize without (l.take i) n = lk at *
        have qn := three_cells wr (.int .i64 (xn : Nat)) (.int .i64 xk) (.string xs) wr.heap.size rfl
        go_wp2_with (at_builtin; refine wpList_append_lies _ rfl _ _ 29 rfl w.heap.size 36 i0 (.agg #[.int .i64 0, .int .i64 0, .string ⟨#[]⟩]) 3 32 Tryz.underlying29 hi hz0 hz1 hz2 rfl (by decide) _ _ _ rfl (HQ.out.row.alloc _) ⟨wr.heap.size, 0, none⟩ 1 1 [.int .i64 (xn : Nat), .int .i64 xk, .string xs] rfl rfl qn (one_cells _ _ _) (by decide) (by unfold maxLen; omega) (by omega) (hK.alloc _).size _ rfl ?_; intro g2 c2 w2 ow gw _ _)
        have hK2 : D.Kept w w2 := ⟨(hK.alloc _).out.grown gw (hK.alloc _).size (fun _ e => by injection e with e; subst e; obtain ⟨_, _, hle, _⟩ := HQ.out.blk; exact hle)⟩
        have HO : Hid (PL w.heap.size w2 g2 c2 (lk ++ [⟨xn, xk, xs⟩])) := ⟨by rw [flat_append, List.length_append]; exact ow⟩
        clear ow gw
        obtain ⟨n', rfl⟩ : ∃ n', gk = n' + 1 := ⟨gk - 1, by omega⟩
        go_roundg n'
        case measure => omega
        case rel =>
          refine ⟨i + 1, by omega, by go_num, g2, c2, ?_, ?_, hK2⟩
          · rw [HE, List.length_append]; rfl
          · rw [HE]; exact HO.out
    · have hil : i = l.length := by omega
      subst hil
      have HQ : Hid (PL w.heap.size wr g' c' (without l n)) := by have := hP; rw [List.take_length] at this; exact this
      clear hP
      simp only [List.take_length]
      go_wp2
      go_ret
      exact ⟨g', c', rfl, HQ.out, hK⟩

def hasN (l : List Pge) (n : Nat) : Bool := l.any (fun x => decide (x.n = n))
theorem without_short (l : List Pge) (n : Nat) : (without l n).length < l.length ↔ hasN l n = true := by
  unfold without hasN
  induction l with
  | nil => simp
  | cons x r ih =>
    have hle := List.length_filter_le (fun x : Pge => !decide (x.n = n)) r
    by_cases hx : x.n = n
    · simp only [hx, List.filter_cons, List.any_cons, List.length_cons, decide_true, Bool.not_true, Bool.true_or, Bool.false_eq_true, if_false, iff_true]; omega
    · simp only [hx, List.filter_cons, List.any_cons, List.length_cons, decide_false, Bool.not_false, if_true, Bool.false_or]; rw [← ih]; omega

set_option maxRecDepth 100000 in
set_option maxHeartbeats 4000000 in
theorem has_walk {w : World} {B g c : Nat} {l : List Pge} (h : PL B w g c l) (n : Nat) (hl : l.length ≤ 100) : Calls Tryz.prog 9 #[.slice (some ⟨g, 0, none⟩) l.length c, .int .i64 (n : Nat)] w fun e w' => e = .returned (.bool (hasN l n)) ∧ D.Kept w w' := by
  have f := without_walk h n hl
  have e : hasN l n = decide ((without l n).length < l.length) := by
    by_cases hh : hasN l n = true
    · rw [hh, decide_eq_true ((without_short l n).2 hh)]
    · rw [decide_eq_false (fun q => hh ((without_short l n).1 q))]; simpa using hh
  rw [e]
  generalize without l n = k at f
  clear h e
  go_enter Tryz.func9, Tryz.ntmps9
  go_wp2_with (go_at_call 12; (with_reducible refine f.mono ?_); rintro e w1 ⟨g1, c1, rfl, _, K⟩)
  go_ret
  exact ⟨rfl, K⟩
end Go.Proofs.YthlhnjjofefgcaaGreatDoor.G
