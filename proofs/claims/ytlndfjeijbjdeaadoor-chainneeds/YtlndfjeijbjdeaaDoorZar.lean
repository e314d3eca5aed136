/- Joined: GWalkD GWalkA GWalkE GWalkJ GPlain GWalkB GWalkC GWalkK GDisk GWalkI GWalkL GWalkM. What is proved of the functions beneath ChainNeeds. Conditions: those that each row names. -/
import Derived.Test.YtlndfjeijbjdeaaDoorZan
import Derived.Test.YtlndfjeijbjdeaaDoorZaq
import Derived.Deep.RegionHeld3
import Derived.Laws.ResultCell
import Derived.BigQuiet
import Derived.LoopN
import Derived.Deep.DrawnRows
import Derived.Maps.RangeWalk
namespace Go.Proofs.YtlndfjeijbjdeaaDoor.G
open Go.ChangeShapes Go.WideShapes Go.ChangeAt Go.RowKit
open D (Dk Ok DiskAt)
open P (bs supL Sup supP Small)

theorem calm70 : Calm 70 := by unfold Calm D.Calm; decide
theorem lds_kept {w w' : World} (h : S.Lds w) (o : D.Kept w w') : S.Lds w' := h.kept ⟨o.out⟩

theorem first_is {w : World} {b g m : Nat} {u : Nat → Bool} (h : S.SA w b g m (S.cnt m u) u) (hL : S.Lds w) (r : Int) (hr : S.IsFirst u m 2 r) :
    Calls Tryd.prog 27 #[.pointer (some ⟨b, 0, none⟩), .int .i64 2] w fun e w' => e = .returned (.int .i64 r) ∧ w' = w := by
  refine (S.first_at h.at hL 2 (by decide)).mono ?_
  rintro e w' ⟨r', rfl, h1, rfl⟩
  have e : r' = r := S.IsFirst.unique h1 hr
  rw [e]
  exact ⟨rfl, rfl⟩

/-- A page is added. -/
def Pq.add (q : Pq) (n : Nat) (kd : Int) (s : ByteArray) : Pq := { q with ut := S.useAt q.ut n, un := S.useAt q.un n, fresh := putM q.fresh n ⟨kd, n, q.gen + 1, s⟩ }

set_option maxRecDepth 100000 in
set_option maxHeartbeats 1000000 in
theorem add_ok {B : Nat} {w : World} {p d g : Nat} {q : Pq} (h : GAt B w p d g q) (hB : B ≤ w.heap.size) (hL : S.Lds w) (n : Nat) (hr : S.IsFirst q.ut q.m 2 (n : Nat)) (hn : n < q.m) (kd : Int) (s : ByteArray) (hg : q.gen < 4611686018427387904)
    (h1 : 1 ≤ kd) (h4 : kd ≤ 4) (hs : s.size ≤ 237) :
    Calls Tryd.prog 13 #[.pointer (some ⟨p, 0, none⟩), .int .i64 kd, .string s] w fun e w' => e = .returned (.tuple #[.int .i64 (n : Nat), .int .i64 0]) ∧ GAt B w' p d g (q.add n kd s) ∧ On B w w' := by
  obtain ⟨a, rfl, rfl, k⟩ := h.out
  clear h
  obtain ⟨c0, c1, c2, c3, c4, c5, c6, c7, c8, c9⟩ := k.cs
  have hm := k.st.few
  have f1 := first_is k.st hL (n : Nat) hr
  have f2 : ∀ W, Calls Tryd.prog 28 #[.agg #[.int .i64 kd, .int .i64 (n : Nat), .int .u64 ((q.gen : Int) + 1), .string s]] W fun e w' => e = .returned (.bool true) ∧ P.Kept W w' := fun W => P.may_yes kd n (q.gen + 1) s h1 h4 (by omega) (by omega) hs W
  clear hr h1 h4 hs
  go_enter Tryd.func13, Tryd.ntmps13
  go_wp2_with (first
    | (go_at_call 27; (with_reducible refine f1.mono ?_); rintro e w1 ⟨rfl, hw1⟩; rw [hw1]; clear hw1; have Y0 := P.Pg.alloc w kd n ((q.gen : Int) + 1) s 70)
    | (go_at_call 28; (with_reducible refine (f2 _).mono ?_); rintro e w2 ⟨rfl, k2⟩; have K2 : D.Kept w w2 := D.Kept.trans ((D.Kept.refl _).alloc _) ⟨k2.out⟩; have g2 := k.kept K2; have Y2 := k2.pg Y0; obtain ⟨c20, c21, c22, c23, c24, c25, c26, c27, c28, c29⟩ := g2.cs; have f3 := S.use_all g2.st n hn)
    | (go_at_call 25; (with_reducible refine f3.mono ?_); rintro e w3 ⟨rfl, gt', s3, o3, hh3⟩; obtain ⟨a3, ed3, eg3, g3, n3⟩ := g2.onTg o3 s3 hh3; obtain ⟨c30, c31, c32, c33, c34, c35, c36, c37, c38, c39⟩ := g3.cs; have Y3 : P.Pg w3 w.heap.size kd n ((q.gen : Int) + 1) s 70 := ⟨n3.rows _ _ _ _ Y2.out calm70⟩; have f4 := S.use_all g3.sn n hn)
    | (go_at_call 25; (with_reducible refine f4.mono ?_); rintro e w4 ⟨rfl, gn', s4, o4, hh4⟩; obtain ⟨a4, ed4, eg4, g4, n4⟩ := g3.onNg o4 s4 hh4; obtain ⟨c40, c41, c42, c43, c44, c45, c46, c47, c48, c49⟩ := g4.cs; have Y4 : P.Pg w4 w.heap.size kd n ((q.gen : Int) + 1) s 70 := ⟨n4.rows _ _ _ _ Y3.out calm70⟩; obtain ⟨y0, y1, y2, y3⟩ := Y4.cs; obtain ⟨w5, hr5, m5, o5⟩ := MAt.store (w := w4.drew) (g4.fm.same rfl) n (by omega) ⟨kd, n, q.gen + 1, s⟩; have hr6 : (Instr.mapUpdate 66 (.map (some a4.mf)) (.int .i64 (n : Nat)) (.agg #[.int .i64 kd, .int .i64 (n : Nat), .int .u64 ((q.gen : Int) + 1), .string s])).run Tryd.prog w4.drew = .ok () w5 := hr5; clear hr5; have c5 : w5.cell? ⟨p, 6, none⟩ = some (.map (some a4.mf)) := (World.cell?_of_block (w := w4) (o5.block _ g4.ps.2.2.2.2.2.2.1)).trans c46; have Y5 : P.Pg w5 w.heap.size kd n ((q.gen : Int) + 1) s 70 := ⟨(o5.block _ (by obtain ⟨_, _, hb⟩ := g4.fm.block; exact map_ne Y4.out hb)).trans Y4.out⟩; obtain ⟨x0, x1, x2, x3⟩ := Y5.cs))
  go_region_held3 (fun W => W.cell? ⟨p, 6, none⟩ = some (.map (some a4.mf)) ∧ W.cell? ⟨w.heap.size, 0, none⟩ = some (.int .i64 kd) ∧ W.cell? ⟨w.heap.size, 1, none⟩ = some (.int .i64 (n : Nat)) ∧ W.cell? ⟨w.heap.size, 2, none⟩ = some (.int .u64 ((q.gen : Int) + 1)) ∧ W.cell? ⟨w.heap.size, 3, none⟩ = some (.string s)) (first | trivial | go_keep) (fail)
  all_goals go_wp2
  all_goals go_ret2
  all_goals
    obtain ⟨g5, n5⟩ := GA.onF (w := w4.drew) (g4.kept ((D.Kept.refl w4).drew)) o5 m5
    exact ⟨rfl, ⟨a4, ed4.trans ed3, eg4.trans eg3, g5⟩, ((((On.ofKept K2 hB).trans n3).trans n4).drew).trans n5⟩


theorem Ok.mono {m n : Nat} {d : Dk} (h : Ok m d) (hm : m ≤ n) : Ok n d := ⟨h.secs, h.last, h.waits, Nat.le_trans h.acts hm, h.since, h.fails⟩
theorem act_one {m : Nat} {d : Dk} (h : D.Ok' m d) : Ok (m + 1) d.act.1 := D.act_ok' h
theorem write_ok {m : Nat} {d : Dk} (h : Ok m d) (n : Int) (s : ByteArray) : Ok (m + 1) (d.write n s).1 := by
  unfold Dk.write
  split
  · exact Ok.mono h (Nat.le_succ _)
  · split
    · exact Ok.mono h (Nat.le_succ _)
    · split
      · exact Ok.mono h (Nat.le_succ _)
      · rename_i h1 h2 h3
        exact act_one (D.wait_ok h _ (by show n.toNat < _; omega))
theorem read_ok' {m : Nat} {d : Dk} (h : Ok m d) (n : Int) : Ok (m + 1) (d.read n).1 := by
  unfold Dk.read
  split
  · exact Ok.mono h (Nat.le_succ _)
  · split
    · exact Ok.mono h (Nat.le_succ _)
    · split
      · exact act_one h.to'
      · exact act_one h.to'
theorem flush_ok' {m : Nat} {d : Dk} (h : Ok m d) : Ok (m + 1) d.flush.1 := by
  unfold Dk.flush
  split
  · exact Ok.mono h (Nat.le_succ _)
  · split
    · exact act_one h.to'
    · exact D.good_ok (act_one h.to')

/-- A sector is written, and flushed. -/
def setl (d : Dk) (n : Int) (s : ByteArray) : Dk × Int := if (d.write n s).2 ≠ 0 then d.write n s else (d.write n s).1.flush
theorem setl_ok {m : Nat} {d : Dk} (h : Ok m d) (n : Int) (s : ByteArray) : Ok (m + 2) (setl d n s).1 := by
  unfold setl
  split
  · exact Ok.mono (write_ok h n s) (Nat.le_succ _)
  · exact flush_ok' (write_ok h n s)

theorem settle_walk {B : Nat} {w : World} {b g m : Nat} {d : Dk} (h : DiskAt B w b g d) (hB : B ≤ w.heap.size) (ok : Ok m d) (hm : m < 50000) (n : Int) (s : ByteArray) :
    Calls Tryd.prog 20 #[.pointer (some ⟨b, 0, none⟩), .int .i64 n, .string s] w fun e w' => e = .returned (.int .i64 (setl d n s).2) ∧ DiskAt B w' b g (setl d n s).1 ∧ D.On B w w' := by
  have hw := D.write_walk h hB ok (by omega) n s
  have hok := write_ok ok n s
  unfold setl
  generalize d.write n s = r at hw hok ⊢
  obtain ⟨d1, e1⟩ := r
  by_cases he : e1 = 0
  · subst he
    have hf : ∀ w1, DiskAt B w1 b g d1 → B ≤ w1.heap.size → Calls Tryd.prog 40 #[.pointer (some ⟨b, 0, none⟩)] w1 fun e w' => e = .returned (.int .i64 d1.flush.2) ∧ DiskAt B w' b g d1.flush.1 ∧ D.On B w1 w' := fun w1 h1 hB1 => D.flush_walk h1 hB1 hok (by omega)
    rw [if_neg (by simp)]
    generalize d1.flush = f at hf ⊢
    obtain ⟨d2, e2⟩ := f
    go_enter Tryd.func20, Tryd.ntmps20
    go_wp2_with (first
      | (go_at_call 19; (with_reducible refine hw.mono ?_); rintro e w1 ⟨rfl, h1, o1⟩; have h53 := hf w1 h1 (Nat.le_trans hB o1.size))
      | (go_at_call 40; (with_reducible refine h53.mono ?_); rintro e w2 ⟨rfl, h2, o2⟩))
    go_ret
    exact ⟨rfl, h2, o1.trans o2⟩
  · rw [if_pos he]
    have hne : (e1 != 0) = true := by simpa using he
    go_enter Tryd.func20, Tryd.ntmps20
    go_wp2_with (first
      | (go_at_call 19; (with_reducible refine hw.mono ?_); rintro e w1 ⟨rfl, h1, o1⟩))
    go_ret
    exact ⟨rfl, h1, o1⟩

/-- A state is committed. -/
def comt (d : Dk) (g : Nat) (r : Int) : Dk × Int := setl d ((g % 2 : Nat) : Int) (bs (supL g r))
theorem comt_ok {m : Nat} {d : Dk} (h : Ok m d) (g : Nat) (r : Int) : Ok (m + 2) (comt d g r).1 := setl_ok h _ _

set_option maxHeartbeats 1000000 in
theorem commit_walk {B : Nat} {w : World} {b g m : Nat} {d : Dk} (h : DiskAt B w b g d) (hB : B ≤ w.heap.size) (ok : Ok m d) (hm : m < 50000) (x : Nat) (r : Int) :
    Calls Tryd.prog 21 #[.pointer (some ⟨b, 0, none⟩), .agg #[.int .u64 (x : Nat), .int .i64 r]] w fun e w' => e = .returned (.int .i64 (comt d x r).2) ∧ DiskAt B w' b g (comt d x r).1 ∧ D.On B w w' := by
  have f1 : ∀ W, Calls Tryd.prog 41 #[.int .u64 (x : Nat)] W fun e w' => e = .returned (.int .i64 ((x % 2 : Nat) : Int)) ∧ w' = W := fun W => P.where_walk x W
  have f2 : ∀ W, Calls Tryd.prog 42 #[.agg #[.int .u64 (x : Nat), .int .i64 r]] W fun e w' => e = .returned (.string (bs (supL x r))) ∧ P.Kept W w' := fun W => P.sput_walk x r W
  have f3 : ∀ W, DiskAt B W b g d → B ≤ W.heap.size → Calls Tryd.prog 20 #[.pointer (some ⟨b, 0, none⟩), .int .i64 ((x % 2 : Nat) : Int), .string (bs (supL x r))] W fun e w' => e = .returned (.int .i64 (comt d x r).2) ∧ DiskAt B w' b g (comt d x r).1 ∧ D.On B W w' := fun W h1 hB1 => settle_walk h1 hB1 ok hm _ _
  generalize comt d x r = z at f3 ⊢
  obtain ⟨t, ht⟩ : ∃ t : Int, ((x % 2 : Nat) : Int) = t := ⟨_, rfl⟩
  obtain ⟨S, hS⟩ : ∃ S : ByteArray, bs (supL x r) = S := ⟨_, rfl⟩
  rw [hS] at f2 f3
  rw [ht] at f1 f3
  clear ht hS
  have k0 : D.Kept w (w.alloc (.cells #[.int .u64 (x : Nat), .int .i64 r] 59)) := (D.Kept.refl w).alloc _
  go_enter Tryd.func21, Tryd.ntmps21
  go_wp2
  go_region_with (first
    | (go_at_call 41; (with_reducible refine (f1 _).mono ?_); rintro e w1 ⟨rfl, rfl⟩)
    | (go_at_call 42; (with_reducible refine (f2 _).mono ?_); rintro e w1 ⟨rfl, k1⟩; have k2 : D.Kept w w1 := D.Kept.trans (by first | exact k0 | exact k0.drew) ⟨k1.out⟩; have hd1 := k2.dk h; have hb1 := Nat.le_trans hB k2.size)
    | (go_at_call 20; (with_reducible refine (f3 _ (by first | exact hd1 | exact hd1) hb1).mono ?_); rintro e w2 ⟨rfl, h2, o2⟩))
  all_goals go_wp2
  all_goals go_ret
  all_goals exact ⟨rfl, h2, (k2.on hB).trans o2⟩

/-- A disk is formatted. -/
def fmtd (d : Dk) : Dk × Int :=
  if (d.write 0 ⟨#[]⟩).2 ≠ 0 then d.write 0 ⟨#[]⟩ else
    if (setl (d.write 0 ⟨#[]⟩).1 1 ⟨#[]⟩).2 ≠ 0 then setl (d.write 0 ⟨#[]⟩).1 1 ⟨#[]⟩ else comt (setl (d.write 0 ⟨#[]⟩).1 1 ⟨#[]⟩).1 1 (-1)
theorem fmtd_ok {m : Nat} {d : Dk} (h : Ok m d) : Ok (m + 5) (fmtd d).1 := by
  unfold fmtd
  split
  · exact Ok.mono (write_ok h _ _) (by omega)
  · split
    · exact Ok.mono (setl_ok (write_ok h _ _) _ _) (by omega)
    · exact comt_ok (setl_ok (write_ok h _ _) _ _) _ _

set_option maxHeartbeats 1000000 in
theorem format_walk {B : Nat} {w : World} {b g m : Nat} {d : Dk} (h : DiskAt B w b g d) (hB : B ≤ w.heap.size) (ok : Ok m d) (hm : m < 49000) :
    Calls Tryd.prog 10 #[.pointer (some ⟨b, 0, none⟩)] w fun e w' => e = .returned (.int .i64 (fmtd d).2) ∧ DiskAt B w' b g (fmtd d).1 ∧ D.On B w w' := by
  have f1 := D.write_walk h hB ok (by omega) 0 ⟨#[]⟩
  have ok1 := write_ok ok 0 ⟨#[]⟩
  have f2 : ∀ W, DiskAt B W b g (d.write 0 ⟨#[]⟩).1 → B ≤ W.heap.size → Calls Tryd.prog 20 #[.pointer (some ⟨b, 0, none⟩), .int .i64 1, .string ⟨#[]⟩] W fun e w' => e = .returned (.int .i64 (setl (d.write 0 ⟨#[]⟩).1 1 ⟨#[]⟩).2) ∧ DiskAt B w' b g (setl (d.write 0 ⟨#[]⟩).1 1 ⟨#[]⟩).1 ∧ D.On B W w' := fun W h1 hB1 => settle_walk h1 hB1 ok1 (by omega) 1 ⟨#[]⟩
  have ok2 := setl_ok ok1 1 ⟨#[]⟩
  have f3 : ∀ W, DiskAt B W b g (setl (d.write 0 ⟨#[]⟩).1 1 ⟨#[]⟩).1 → B ≤ W.heap.size → Calls Tryd.prog 21 #[.pointer (some ⟨b, 0, none⟩), .agg #[.int .u64 1, .int .i64 (-1)]] W fun e w' => e = .returned (.int .i64 (comt (setl (d.write 0 ⟨#[]⟩).1 1 ⟨#[]⟩).1 1 (-1)).2) ∧ DiskAt B w' b g (comt (setl (d.write 0 ⟨#[]⟩).1 1 ⟨#[]⟩).1 1 (-1)).1 ∧ D.On B W w' := fun W h1 hB1 => commit_walk h1 hB1 ok2 (by omega) 1 (-1)
  unfold fmtd
  generalize comt (setl (d.write 0 ⟨#[]⟩).1 1 ⟨#[]⟩).1 1 (-1) = z3 at f3 ⊢
  generalize setl (d.write 0 ⟨#[]⟩).1 1 ⟨#[]⟩ = z2 at f2 f3 ⊢
  generalize d.write 0 ⟨#[]⟩ = z1 at f1 f2 ⊢
  obtain ⟨d1, e1⟩ := z1
  obtain ⟨d2, e2⟩ := z2
  obtain ⟨d3, e3⟩ := z3
  clear ok1 ok2
  by_cases h1 : e1 = 0
  · subst h1
    rw [if_neg (by simp)]
    by_cases h2 : e2 = 0
    · subst h2
      rw [if_neg (by simp)]
      go_enter Tryd.func10, Tryd.ntmps10
      go_wp2_with (first
        | (go_at_call 19; (with_reducible refine f1.mono ?_); rintro e w1 ⟨rfl, k1, o1⟩; have b1 := Nat.le_trans hB o1.size; have g2 := f2 w1 k1 b1)
        | (go_at_call 20; (with_reducible refine g2.mono ?_); rintro e w2 ⟨rfl, k2, o2⟩; have b2 := Nat.le_trans b1 o2.size)
        | (go_at_call 21; (with_reducible refine (f3 w2 k2 b2).mono ?_); rintro e w3 ⟨rfl, k3, o3⟩))
      go_ret
      exact ⟨rfl, k3, (o1.trans o2).trans o3⟩
    · rw [if_pos h2]
      have hne : (e2 != 0) = true := by simpa using h2
      go_enter Tryd.func10, Tryd.ntmps10
      go_wp2_with (first
        | (go_at_call 19; (with_reducible refine f1.mono ?_); rintro e w1 ⟨rfl, k1, o1⟩; have b1 := Nat.le_trans hB o1.size; have g2 := f2 w1 k1 b1)
        | (go_at_call 20; (with_reducible refine g2.mono ?_); rintro e w2 ⟨rfl, k2, o2⟩))
      go_ret
      exact ⟨rfl, k2, o1.trans o2⟩
  · rw [if_pos h1]
    have hne : (e1 != 0) = true := by simpa using h1
    go_enter Tryd.func10, Tryd.ntmps10
    go_wp2_with (first
      | (go_at_call 19; (with_reducible refine f1.mono ?_); rintro e w1 ⟨rfl, k1, o1⟩))
    go_ret
    exact ⟨rfl, k1, o1⟩
open D (Sec Wr Ct settled settle1 whole)

/-- So many acts can be done before the power fails. -/
structure Liv (d : Dk) (k : Nat) : Prop where
  up : d.dead = false
  far : ∀ c r, d.cuts = c :: r → ((d.since + k : Nat) : Int) ≤ c.at_

theorem Liv.act {d : Dk} (h : Liv d 1) : d.act = (d.begin, false) := by
  unfold Dk.act
  split
  · rfl
  · rename_i c r hc
    have := h.far c r hc
    rw [if_pos (by omega)]
theorem Liv.mono {d : Dk} {k j : Nat} (h : Liv d k) (hj : j ≤ k) : Liv d j := ⟨h.up, fun c r hc => by have := h.far c r hc; omega⟩

theorem wait_live {d : Dk} {x : Wr} {k : Nat} (h : Liv d k) : Liv (d.wait x) k := by
  obtain ⟨e1, e2, e3, e4, e5, e6⟩ := D.wait_fields d x
  exact ⟨e5.trans h.up, fun c r hc => by rw [e3]; exact h.far c r (e1 ▸ hc)⟩
theorem begin_live {d : Dk} {k : Nat} (h : Liv d (k + 1)) : Liv d.begin k := ⟨h.up, fun c r hc => by have := h.far c r hc; show ((d.since + 1 + k : Nat) : Int) ≤ _; omega⟩

theorem write_live {d : Dk} (h : Liv d 1) (n : Nat) (hn : n < d.secs.length) (s : ByteArray) (hs : s.size ≤ 256) : d.write (n : Nat) s = ((d.wait ⟨n, whole s⟩).begin, 0) := by
  unfold Dk.write
  have e := (wait_live (x := ⟨n, whole s⟩) h).act
  rw [if_neg (by simp [h.up]), if_neg (by omega), if_neg (by omega)]
  have e2 : ((n : Nat) : Int).toNat = n := by omega
  rw [e2, e]
  rfl
theorem flush_live {d : Dk} (h : Liv d 1) : d.flush = (d.begin.good, 0) := by
  unfold Dk.flush
  rw [if_neg (by simp [h.up]), h.act]
  rfl
theorem read_live {d : Dk} (h : Liv d 1) (n : Nat) (hn : n < d.secs.length) : d.read (n : Nat) = (d.begin, d.begin.says n) := by
  unfold Dk.read
  rw [if_neg (by simp [h.up]), if_neg (by omega), h.act]
  have e2 : ((n : Nat) : Int).toNat = n := by omega
  rw [e2]
  rfl

/-- Nothing waits. -/
structure Flu (d : Dk) : Prop where
  waits : d.waits = []
  last : ∀ (i : Nat) (s : Sec), d.secs[i]? = some s → s.last = 0
  up : d.dead = false

/-- What waits since all was flushed: writes of sectors that differ. -/
structure Pend (d0 : Dk) (ws : List Wr) (d : Dk) : Prop where
  waits : d.waits = ws
  len : d.secs.length = d0.secs.length
  inn : ∀ x ∈ ws, x.sec < d0.secs.length
  nd : ws.Pairwise (fun x y => x.sec ≠ y.sec)
  oth : ∀ i, (∀ x ∈ ws, x.sec ≠ i) → d.secs[i]? = d0.secs[i]?
  own : ∀ x ∈ ws, ∃ (s0 : Sec) (q : Nat), d0.secs[x.sec]? = some s0 ∧ d.secs[x.sec]? = some { s0 with last := q }
  cuts : d.cuts = d0.cuts
  up : d.dead = false
  fails : d.fails = d0.fails
  since : d.since = d0.since + ws.length

theorem Pend.nil {d : Dk} (h : Flu d) : Pend d [] d := ⟨h.waits, rfl, (by intro _ h; cases h), List.Pairwise.nil, fun _ _ => rfl, (by intro _ h; cases h), rfl, h.up, rfl, rfl⟩

theorem Pend.write {d0 d : Dk} {ws : List Wr} (h : Pend d0 ws d) (h0 : Flu d0) (x : Wr) (hx : x.sec < d0.secs.length) (hne : ∀ y ∈ ws, y.sec ≠ x.sec) : Pend d0 (ws ++ [x]) (d.wait x).begin := by
  have hx' : x.sec < d.secs.length := by rw [h.len]; exact hx
  have e0 := h.oth x.sec (fun y hy => hne y hy)
  obtain ⟨s0, hs0⟩ : ∃ s0, d0.secs[x.sec]? = some s0 := ⟨_, List.getElem?_eq_getElem hx⟩
  have hs := e0.trans hs0
  have hl := h0.last _ _ hs0
  have ew : d.wait x = { d with waits := d.waits ++ [x], secs := d.secs.modify x.sec fun s => { s with last := d.waits.length + 1 } } := by
    unfold Dk.wait
    rw [hs]
    dsimp only
    rw [if_pos (by rw [hl]; exact Nat.zero_le _)]
  rw [ew]
  have other : ∀ i, x.sec ≠ i → (d.secs.modify x.sec fun s => { s with last := d.waits.length + 1 })[i]? = d.secs[i]? := fun i hi => List.getElem?_modify_ne _ _ hi
  refine ⟨by show d.waits ++ [x] = _; rw [h.waits], by show (List.modify _ _ _).length = _; rw [List.length_modify]; exact h.len, fun y hy => ?_, ?_, fun i hi => ?_, fun y hy => ?_, h.cuts, h.up, h.fails, by show d.since + 1 = _; rw [h.since, List.length_append]; rfl⟩
  · rcases List.mem_append.1 hy with hy | hy
    · exact h.inn y hy
    · rw [List.mem_singleton.1 hy]; exact hx
  · refine List.pairwise_append.2 ⟨h.nd, List.pairwise_singleton _ _, fun y hy z hz => ?_⟩
    rw [List.mem_singleton.1 hz]; exact hne y hy
  · show (List.modify _ _ _)[i]? = _
    rw [other i (hi x (by simp))]
    exact h.oth i (fun y hy => hi y (by simp [hy]))
  · rcases List.mem_append.1 hy with hy | hy
    · obtain ⟨s1, q, h1, h2⟩ := h.own y hy
      refine ⟨s1, q, h1, ?_⟩
      show (List.modify _ _ _)[y.sec]? = _
      rw [other _ (hne y hy).symm]; exact h2
    · obtain rfl := List.mem_singleton.1 hy
      refine ⟨s0, d.waits.length + 1, hs0, ?_⟩
      show (List.modify _ _ _)[y.sec]? = _
      rw [List.getElem?_modify_eq, hs]; rfl

theorem settled_hit (l : List Wr) (f : Nat → Nat) (s : List Sec) (nd : l.Pairwise (fun x y => x.sec ≠ y.sec)) (j : Nat) (hj : j < l.length) : ∀ k, (settled l f s k)[l[j].sec]? = if j < k then (s[l[j].sec]?).map (settle1 l[j] (f j)) else s[l[j].sec]?
  | 0 => by rw [if_neg (by omega)]; rfl
  | k + 1 => by
    have ih := settled_hit l f s nd j hj k
    by_cases hk : k < l.length
    · rw [D.settled_succ _ _ _ _ hk]
      by_cases e : k = j
      · subst e
        rw [List.getElem?_modify_eq, ih, if_neg (by omega), if_pos (by omega)]
        rfl
      · have hne : l[k].sec ≠ l[j].sec := by
          rcases Nat.lt_or_gt_of_ne e with h | h
          · exact List.pairwise_iff_getElem.1 nd k j hk hj h
          · exact (List.pairwise_iff_getElem.1 nd j k hj hk h).symm
        rw [List.getElem?_modify_ne _ _ hne, ih]
        by_cases h1 : j < k
        · rw [if_pos h1, if_pos (by omega)]
        · rw [if_neg h1, if_neg (by omega)]
    · have e : settled l f s (k + 1) = settled l f s k := by rw [settled, List.getElem?_eq_none (by omega)]
      rw [e, ih, if_pos (by omega), if_pos (by omega)]

/-- A disk on which those sectors are written for good. -/
structure Wrt (d0 : Dk) (ws : List Wr) (d : Dk) : Prop where
  flu : Flu d
  len : d.secs.length = d0.secs.length
  oth : ∀ i, (∀ x ∈ ws, x.sec ≠ i) → d.secs[i]? = d0.secs[i]?
  own : ∀ x ∈ ws, d.secs[x.sec]? = some ⟨x.bytes, false, 0⟩
  cuts : d.cuts = d0.cuts
  fails : d.fails = d0.fails
  since : d.since = d0.since + ws.length + 1

theorem Pend.flush {d0 d : Dk} {ws : List Wr} (h : Pend d0 ws d) (h0 : Flu d0) : Wrt d0 ws d.begin.good := by
  have oth : ∀ i, (∀ x ∈ ws, x.sec ≠ i) → d.begin.good.secs[i]? = d0.secs[i]? := by
    intro i hi
    show (settled d.waits _ d.secs _)[i]? = _
    rw [D.settled_other _ _ _ i (by rw [h.waits]; exact hi)]
    exact h.oth i hi
  have own : ∀ x ∈ ws, d.begin.good.secs[x.sec]? = some ⟨x.bytes, false, 0⟩ := by
    intro x hx
    obtain ⟨j, hj, rfl⟩ := List.getElem_of_mem hx
    obtain ⟨s0, q, _, h2⟩ := h.own _ hx
    show (settled d.waits _ d.secs d.waits.length)[_]? = _
    rw [h.waits, settled_hit ws (fun _ => 1) d.secs h.nd j hj, if_pos hj, h2]
    rfl
  have len : d.begin.good.secs.length = d0.secs.length := by
    show (settled _ _ _ _).length = _
    rw [D.settled_length]; exact h.len
  refine ⟨⟨rfl, fun i s hs => ?_, h.up⟩, len, oth, own, h.cuts, h.fails, by show d.since + 1 = _; rw [h.since]⟩
  by_cases hi : ∀ x ∈ ws, x.sec ≠ i
  · rw [oth i hi] at hs; exact h0.last i s hs
  · simp only [Classical.not_forall, Classical.not_not] at hi
    obtain ⟨x, hx, rfl⟩ := hi
    rw [own x hx] at hs
    injection hs with hs
    rw [← hs]


/-- What a sector's bytes say of a state, at a place. -/
def Sd (A : ByteArray) (a : Nat) : Option (Nat × Int) → Prop
  | some (g, r) => Sup g r ∧ A = bs (supP g r) ∧ g % 2 = a
  | none => ∀ g r, Sup g r → A = bs (supP g r) → g % 2 ≠ a

theorem sget_sd {A : ByteArray} {a : Nat} {o : Option (Nat × Int)} (h : Sd A a o) (w : World) :
    Calls Tryd.prog 63 #[.string A, .int .i64 (a : Nat)] w fun e w' => e = .returned (.tuple #[.agg #[.int .u64 ((o.getD (0, 0)).1 : Nat), .int .i64 (o.getD (0, 0)).2], .bool o.isSome]) ∧ P.Kept w w' := by
  cases o with
  | some x =>
    obtain ⟨g, r⟩ := x
    obtain ⟨h1, rfl, h3⟩ := h
    exact P.sget_yes h1 (by omega) w
  | none =>
    have hs := P.un_small A
    have e := P.bs_un A
    have := P.sget_walk (P.un A) hs (a : Int) w
    rw [e] at this
    refine this.mono (fun _ _ ⟨h1, hk⟩ => ⟨h1.no (fun g r h2 h3 h4 => ?_), hk⟩)
    refine h g r h2 ?_ (by omega)
    rw [← h3, e]

/-- Which of two states is the later one. -/
def pick (o0 o1 : Option (Nat × Int)) : Option (Nat × Int) := match o1 with
  | some (g, r) => if (o0.getD (0, 0)).1 < g then some (g, r) else o0
  | none => o0

theorem choose_sd {A C : ByteArray} {o0 o1 : Option (Nat × Int)} (h0 : Sd A 0 o0) (h1 : Sd C 1 o1) (w : World) :
    Calls Tryd.prog 44 #[.string A, .string C] w fun e w' => e = .returned (.tuple #[.agg #[.int .u64 (((pick o0 o1).getD (0, 0)).1 : Nat), .int .i64 ((pick o0 o1).getD (0, 0)).2], .bool (pick o0 o1).isSome]) ∧ P.Kept w w' := by
  have f1 : ∀ W, _ := fun W => sget_sd h0 W
  have f2 : ∀ W, _ := fun W => sget_sd h1 W
  cases o1 with
  | none => exact P.choose_none A C _ _ _ _ _ f1 f2 w
  | some x =>
    obtain ⟨g, r⟩ := x
    unfold pick
    dsimp only
    split
    · rename_i hg
      exact P.choose_odd A C _ _ _ _ _ hg f1 f2 w
    · rename_i hg
      exact P.choose_even A C _ _ _ _ _ hg f1 f2 w

theorem DiskAt.set {B : Nat} {w : World} {b g : Nat} {d : Dk} (h : DiskAt B w b g d) {x : Nat} {cs : Array Value} {t : TypeId} {fr : Nat × Nat} (hx : w.heap[x]? = some (.cells cs t fr)) (ht : ¬ D.Quiet t) (i : Nat) (v : Value) : DiskAt B (w.setCell ⟨x, i, none⟩ v) b g d :=
  h.frame (fun k cs' t' fr' hk hq => by
    rw [Below.heap_setCell w ⟨x, i, none⟩ v k (cells_ne hk hx (fun e => ht (e ▸ hq)))]
    exact hk)
theorem OnD.new {B : Nat} {a b : World} (h : D.On B a b) (hB : B ≤ a.heap.size) {x : Nat} (hx : a.heap.size ≤ x) (i : Nat) (v : Value) : D.On B a (b.setCell ⟨x, i, none⟩ v) := by
  have e : ∀ k, k < a.heap.size → (b.setCell ⟨x, i, none⟩ v).heap[k]? = b.heap[k]? := fun k hk => Below.heap_setCell b ⟨x, i, none⟩ v k (by show k ≠ x; omega)
  refine ⟨h.below.setCell (by show B ≤ x; omega) v, fun k cs t fr hk hc => ?_, fun k es c hk => ?_⟩
  · rw [e k (Array.getElem?_eq_some_iff.1 hk).1]; exact h.rows k cs t fr hk hc
  · rw [e k (Array.getElem?_eq_some_iff.1 hk).1]; exact h.maps k es c hk
theorem quiet59 : ¬ D.Quiet 59 := by unfold D.Quiet; decide
theorem quiet98 : ¬ D.Quiet 98 := by unfold D.Quiet; decide
theorem calm59 : D.Calm 59 := by unfold D.Calm; decide
theorem calm98 : D.Calm 98 := by unfold D.Calm; decide

/-- Two texts in memory. -/
structure Tw (w : World) (s : Nat) (A C : ByteArray) : Prop where
  out : w.heap[s]? = some (.cells #[.string A, .string C] 98)
theorem Tw.cs {w : World} {s : Nat} {A C : ByteArray} (h : Tw w s A C) : w.cell? ⟨s, 0, none⟩ = some (.string A) ∧ w.cell? ⟨s, 1, none⟩ = some (.string C) := by
  constructor <;> (rw [cell_of_row w s _ _ _ _ h.out]; rfl)
theorem Tw.fz {w : World} {s : Nat} {A C : ByteArray} (h : Tw w s A C) (j : Nat) : w.frozen? ⟨s, j, none⟩ = false := frozen_of_row w s j _ _ h.out
theorem Tw.set0 {w : World} {s : Nat} {A C : ByteArray} (h : Tw w s A C) (X : ByteArray) : Tw (w.setCell ⟨s, 0, none⟩ (.string X)) s X C := ⟨by rw [heap_setCell_same w s 0 _ _ _ h.out]; rfl⟩
theorem Tw.set1 {w : World} {s : Nat} {A C : ByteArray} (h : Tw w s A C) (X : ByteArray) : Tw (w.setCell ⟨s, 1, none⟩ (.string X)) s A X := ⟨by rw [heap_setCell_same w s 1 _ _ _ h.out]; rfl⟩
theorem Tw.on {B : Nat} {w w' : World} {s : Nat} {A C : ByteArray} (h : Tw w s A C) (o : D.On B w w') : Tw w' s A C := ⟨o.rows _ _ _ _ h.out calm98⟩
theorem Sp.on {B : Nat} {w w' : World} {s : Nat} {x y : Int} (h : P.Sp w s x y) (o : D.On B w w') : P.Sp w' s x y := ⟨o.rows _ _ _ _ h.out calm59⟩
/-- The two blocks of one's own, and the disk, ahead of the loop. -/
theorem begin_two {B : Nat} {w : World} {b g : Nat} {d : Dk} (h : DiskAt B w b g d) (hB : B ≤ w.heap.size) :
    P.Sp ((w.alloc (.cells #[.int .u64 0, .int .i64 0] 59)).alloc (.cells #[.string ⟨#[]⟩, .string ⟨#[]⟩] 98)) w.heap.size 0 0 ∧ Tw ((w.alloc (.cells #[.int .u64 0, .int .i64 0] 59)).alloc (.cells #[.string ⟨#[]⟩, .string ⟨#[]⟩] 98)) (w.heap.size + 1) ⟨#[]⟩ ⟨#[]⟩ ∧
    DiskAt B ((w.alloc (.cells #[.int .u64 0, .int .i64 0] 59)).alloc (.cells #[.string ⟨#[]⟩, .string ⟨#[]⟩] 98)) b g d ∧ D.On B w ((w.alloc (.cells #[.int .u64 0, .int .i64 0] 59)).alloc (.cells #[.string ⟨#[]⟩, .string ⟨#[]⟩] 98)) := by
  have k : D.Kept w ((w.alloc (.cells #[.int .u64 0, .int .i64 0] 59)).alloc (.cells #[.string ⟨#[]⟩, .string ⟨#[]⟩] 98)) := ((D.Kept.refl w).alloc _).alloc _
  refine ⟨((P.Kept.refl _).alloc _).sp (P.Sp.alloc w 0 0), ⟨D.two_new w _ _⟩, k.dk h, k.on hB⟩
/-- A text is stored. -/
theorem store_two {B : Nat} {w W : World} {b g s : Nat} {d : Dk} {A C : ByteArray} (h : DiskAt B W b g d) (t : Tw W s A C) (i : Nat) (X : ByteArray) (o : D.On B w W) (hB : B ≤ w.heap.size) (hs : w.heap.size ≤ s) (z : P.Sp W w.heap.size 0 0) (hne : w.heap.size ≠ s) :
    DiskAt B (W.setCell ⟨s, i, none⟩ (.string X)) b g d ∧ D.On B w (W.setCell ⟨s, i, none⟩ (.string X)) ∧ P.Sp (W.setCell ⟨s, i, none⟩ (.string X)) w.heap.size 0 0 ∧ B ≤ (W.setCell ⟨s, i, none⟩ (.string X)).heap.size := by
  have o2 := OnD.new o hB hs i (.string X)
  exact ⟨DiskAt.set h t.out quiet98 i _, o2, z.far _ _ hne, Nat.le_trans hB o2.size⟩

set_option maxHeartbeats 1000000 in
set_option maxRecDepth 100000 in
theorem committed_yes {B : Nat} {w : World} {b g m : Nat} {d : Dk} (h : DiskAt B w b g d) (hB : B ≤ w.heap.size) (ok : Ok m d) (hm : m < 49000) {o0 o1 : Option (Nat × Int)}
    (he0 : (d.read 0).2.2 = 0 ∨ (d.read 0).2.2 = 41) (he1 : ((d.read 0).1.read 1).2.2 = 0 ∨ ((d.read 0).1.read 1).2.2 = 41) (h0 : Sd (d.read 0).2.1 0 o0) (h1 : Sd ((d.read 0).1.read 1).2.1 1 o1) (x : Nat × Int) (hp : pick o0 o1 = some x) :
    Calls Tryd.prog 22 #[.pointer (some ⟨b, 0, none⟩)] w fun e w' => e = .returned (.tuple #[.agg #[.int .u64 (x.1 : Nat), .int .i64 x.2], .int .i64 0]) ∧ DiskAt B w' b g ((d.read 0).1.read 1).1 ∧ D.On B w w' := by
  have f1 : ∀ W, DiskAt B W b g d → B ≤ W.heap.size → Calls Tryd.prog 43 #[.pointer (some ⟨b, 0, none⟩), .int .i64 0] W fun e w' => e = .returned (.tuple #[.string (d.read 0).2.1, .int .i64 (d.read 0).2.2]) ∧ DiskAt B w' b g (d.read 0).1 ∧ D.On B W w' := fun W k kB => D.read_walk k kB ok (by omega) 0
  have ok1 := read_ok' ok 0
  have f2 : ∀ W, DiskAt B W b g (d.read 0).1 → B ≤ W.heap.size → Calls Tryd.prog 43 #[.pointer (some ⟨b, 0, none⟩), .int .i64 1] W fun e w' => e = .returned (.tuple #[.string ((d.read 0).1.read 1).2.1, .int .i64 ((d.read 0).1.read 1).2.2]) ∧ DiskAt B w' b g ((d.read 0).1.read 1).1 ∧ D.On B W w' := fun W k kB => D.read_walk k kB ok1 (by omega) 1
  have f3 := choose_sd h0 h1
  rw [hp] at f3
  obtain ⟨xg, xr⟩ := x
  dsimp only [Option.getD_some, Option.isSome_some] at f3
  generalize (d.read 0).1.read 1 = z2 at f2 f3 he1 h1 ⊢
  generalize d.read 0 = z1 at f1 f2 f3 he0 h0
  obtain ⟨d1, A, e0⟩ := z1
  obtain ⟨d2, C, e1⟩ := z2
  clear h0 h1 ok1 hp
  obtain ⟨Z0, T0, D0, O0⟩ := begin_two h hB
  have B0 := Nat.le_trans hB O0.size
  dsimp only at f1 f2 f3 he0 he1
  rcases he0 with rfl | rfl <;> rcases he1 with rfl | rfl
  all_goals
    go_enter Tryd.func22, Tryd.ntmps22
    go_wp2
    refine wp_loop_rounds 3 ?_
    rw [rounds_succ]
    go_wp2_with (go_at_call 43; (with_reducible refine (f1 _ D0 B0).mono ?_); rintro e w1 ⟨rfl, D1, O1⟩; have T1 := T0.on O1; have Z1 := Sp.on Z0 O1; have c1 := T1.cs.1; have z1 := T1.fz 0; obtain ⟨D2, O2, Z2, B2⟩ := store_two D1 T1 0 A (O0.trans O1) hB (Nat.le_succ _) Z1 (by omega); have T2 := T1.set0 A)
    rw [rounds_succ]
    go_wp2_with (go_at_call 43; (with_reducible refine (f2 _ D2 B2).mono ?_); rintro e w2 ⟨rfl, D3, O3⟩; have T3 := T2.on O3; have Z3 := Sp.on Z2 O3; have c3 := T3.cs.2; have z3 := T3.fz 1; obtain ⟨D4, O4, Z4, B4⟩ := store_two D3 T3 1 C (O2.trans O3) hB (Nat.le_succ _) Z3 (by omega); have T4 := T3.set1 C; obtain ⟨c40, c41⟩ := T4.cs)
    rw [rounds_succ]
    go_wp2_with (go_at_call 44; (with_reducible refine (f3 _).mono ?_); rintro e w3 ⟨rfl, K5⟩; have K6 : P.Kept w3 (w3.alloc (.cells #[.int .u64 (xg : Nat), .int .i64 xr] 59)) := (P.Kept.refl w3).alloc _; have Z5 := K6.sp (K5.sp Z4); have Y5 := P.Sp.alloc w3 xg xr; obtain ⟨y0, y1⟩ := Y5.cs; obtain ⟨⟨zz0, hh0⟩, zz1, hh1⟩ := Z5.ready (xg : Nat); have D5 : DiskAt B _ b g d2 := D.Kept.dk (D.Kept.trans ⟨K5.out⟩ ⟨K6.out⟩) D4; have O5 := O4.trans (D.Kept.on (D.Kept.trans ⟨K5.out⟩ ⟨K6.out⟩) B4))
    refine bodyPost_ret (v := .tuple #[.agg #[.int .u64 (xg : Nat), .int .i64 xr], .int .i64 0]) ?_ rfl ⟨rfl, ?_, ?_⟩
    · exact P.results_two (p := 2) (u := 3) (ty := 59) rfl _ _ w.heap.size 59 _ (0, 0) _ rfl (Z5.fill xg xr).out Tryd.underlying59 rfl P.size59
    · exact DiskAt.set (DiskAt.set D5 Z5.out quiet59 0 _) (Z5.set0 xg).out quiet59 1 _
    · exact OnD.new (OnD.new O5 hB (Nat.le_refl _) 0 _) hB (Nat.le_refl _) 1 _


/-- The places ahead of the pages. -/
def ahead : Nat → Bool := S.useAt (S.useAt (fun _ => false) 0) 1
theorem cnt_none (m : Nat) : S.cnt m (fun _ => false) = m := by
  induction m with
  | zero => simp [S.cnt]
  | succ m ih => rw [S.cnt_succ, ih]; rfl
theorem cnt_ahead (m : Nat) (h : 2 ≤ m) : S.cnt m ahead = m - 2 := by
  have h1 := S.cnt_use (m := m) (n := 0) (u := fun _ => false) (by omega) rfl
  have h2 := S.cnt_use (m := m) (n := 1) (u := S.useAt (fun _ => false) 0) (by omega) (by simp [S.useAt])
  rw [cnt_none] at h1
  unfold ahead
  omega

theorem new_two (m : Nat) (h2 : 2 ≤ m) (h64 : m ≤ 1024) (w : World) :
    (Calls Tryd.prog 23 #[.int .i64 (m : Nat)] w fun e w' => ∃ b, e = .returned (.pointer (some ⟨b, 0, none⟩)) ∧ S.SAt w.heap.size w' b m m (fun _ => false) ∧ D.Kept w w') := by
  refine (S.new_walk m (by omega) w).mono ?_
  rintro e w' ⟨b, rfl, h1, hk⟩
  exact ⟨b, rfl, h1, ⟨hk.out⟩⟩

/-- A pager that was opened. -/
def opened (d : Dk) (x : Nat × Int) : Pq := ⟨d, x.1, x.2, d.secs.length, ahead, ahead, ahead, fun _ => none, fun _ => none, 0, false⟩

theorem MAt.empty {X : World} {b c : Nat} (h : X.heap[b]? = some (.map #[] c)) : MAt X b (fun _ => none) := by
  refine ⟨.map [], ⟨#[], c, h, ⟨by simp, MapKept.stamped_empty c, by simp⟩, Nat.le_refl _, rfl⟩, fun _ => rfl, ?_, ?_⟩
  · intro k p h; cases h
  · intro x h; cases h

theorem SA.ltb {w : World} {b g m l : Nat} {u : Nat → Bool} (h : S.SA w b g m l u) : b < w.heap.size ∧ g < w.heap.size := by
  obtain ⟨⟨_, _, h1⟩, _, _, h2⟩ := h.blocks
  exact ⟨(Array.getElem?_eq_some_iff.1 h1).1, (Array.getElem?_eq_some_iff.1 h2).1⟩

theorem open_end {B : Nat} {w5 v1 v2 X : World} {b g bk gk b1 g1 b2 g2 mf mh p : Nat} {d2 : Dk} {x : Nat} {r : Int} (hX : DiskAt B X b g d2)
    (a5 : S.SA w5 bk gk d2.secs.length (S.cnt d2.secs.length ahead) ahead) (s1 : S.SA v1 b1 g1 d2.secs.length (S.cnt d2.secs.length ahead) ahead) (s2 : S.SA v2 b2 g2 d2.secs.length (S.cnt d2.secs.length ahead) ahead)
    (k5 : D.Kept w5 X) (k1 : D.Kept v1 X) (k2 : D.Kept v2 X) (hf : X.heap[mf]? = some (.map #[] 0)) (hh : X.heap[mh]? = some (.map #[] 0)) (ne : mf ≠ mh)
    (hbk : B ≤ bk) (hgk : B ≤ gk) (hB : B ≤ w5.heap.size) (hp : p = X.heap.size) (l1 : w5.heap.size ≤ b1) (l1' : w5.heap.size ≤ g1) (l2 : v1.heap.size ≤ b2) (l2' : v1.heap.size ≤ g2) (lf : w5.heap.size ≤ mf) (lh : w5.heap.size ≤ mh) :
    GAt B (X.alloc (.cells #[.pointer (some ⟨b, 0, none⟩), .int .u64 (x : Nat), .int .i64 r, .pointer (some ⟨bk, 0, none⟩), .pointer (some ⟨b1, 0, none⟩), .pointer (some ⟨b2, 0, none⟩), .map (some mf), .map (some mh), .int .i64 0, .bool false] 68)) p b g (opened d2 (x, r)) := by
  subst hp
  have hB' := hB
  have kA : D.Kept X (X.alloc (.cells #[.pointer (some ⟨b, 0, none⟩), .int .u64 (x : Nat), .int .i64 r, .pointer (some ⟨bk, 0, none⟩), .pointer (some ⟨b1, 0, none⟩), .pointer (some ⟨b2, 0, none⟩), .map (some mf), .map (some mh), .int .i64 0, .bool false] 68)) := (D.Kept.refl X).alloc _
  have e5 := SA.ltb a5
  have e1 := SA.ltb s1
  have e2 := SA.ltb s2
  have e6 := k5.size
  have q5 := k5.trans kA
  have q1 := k1.trans kA
  have q2 := k2.trans kA
  refine ⟨⟨b, g, bk, gk, b1, g1, b2, g2, mf, mh⟩, rfl, rfl, ⟨heap_alloc_new X _, kA.dk hX, a5.kept ⟨q5.out⟩, s1.kept ⟨q1.out⟩, s2.kept ⟨q2.out⟩, MAt.empty (kA.block hf), MAt.empty (kA.block hh), ⟨?_, ?_, ?_, ?_, ?_, ?_, ne⟩, ⟨?_, hbk, hgk, ?_, ?_, ?_, ?_, ?_, ?_⟩⟩⟩ <;> (try dsimp only) <;> omega

set_option maxHeartbeats 4000000 in
set_option maxRecDepth 100000 in
theorem open_A {B : Nat} {w : World} {b g : Nat} {d2 : Dk} (hB : B ≤ w.heap.size) (h2 : 2 ≤ d2.secs.length) (h64 : d2.secs.length ≤ 1024) (x : Nat) (r : Int)
    (f1 : Calls Tryd.prog 22 #[.pointer (some ⟨b, 0, none⟩)] w fun e w' => e = .returned (.tuple #[.agg #[.int .u64 (x : Nat), .int .i64 r], .int .i64 0]) ∧ DiskAt B w' b g d2 ∧ D.On B w w') :
    Calls Tryd.prog 11 #[.pointer (some ⟨b, 0, none⟩)] w fun e w' => ∃ p, e = .returned (.tuple #[.pointer (some ⟨p, 0, none⟩), .int .i64 0]) ∧ GAt B w' p b g (opened d2 (x, r)) ∧ On B w w' := by
  obtain ⟨m, hm⟩ : ∃ m, d2.secs.length = m := ⟨_, rfl⟩
  have HC : Hid (S.cnt m ahead = m - 2) := cnt_ahead m (by omega)
  have f2 : ∀ W, DiskAt B W b g d2 → Calls Tryd.prog 24 #[.pointer (some ⟨b, 0, none⟩)] W fun e w' => e = .returned (.int .i64 (m : Nat)) ∧ w' = W := fun W k => by have := D.sectors_walk k; rw [hm] at this; exact this
  have HM : Hid (d2.secs.length = m) := hm
  rw [hm] at h2 h64
  have f3 := new_two m h2 h64
  clear hm
  go_enter Tryd.func11, Tryd.ntmps11
  go_wp2_with (first
    | (go_at_call 22; (with_reducible refine f1.mono ?_); rintro e w1 ⟨rfl, D1, O1⟩; have K2 : D.Kept w1 (w1.alloc (.cells #[.int .u64 (x : Nat), .int .i64 r] 59)) := (D.Kept.refl w1).alloc _; have D2 := K2.dk D1; have Y2 := P.Sp.alloc w1 x r)
    | (go_at_call 24; (with_reducible refine (f2 _ D2).mono ?_); rintro e w' ⟨rfl, rfl⟩)
    | (go_at_call 23; (with_reducible refine (f3 _).mono ?_); rintro e w3 ⟨bk, rfl, s3, K3⟩; have K30 := K2.trans K3; have Y3 : P.Sp w3 w1.heap.size x r := ⟨K3.block Y2.out⟩))
  refine wp_loop_rounds 3 ?_
  rw [rounds_succ]
  have u1 : Calls Tryd.prog 25 #[.pointer (some ⟨bk, 0, none⟩), .int .i64 0] w3 _ := S.use_new s3 K3.size 0 (by omega) rfl (by omega)
  go_wp2_with (go_at_call 25; (with_reducible refine u1.mono ?_); rintro e w4 ⟨rfl, s4, o4⟩; have K4 : D.Kept w1 w4 := ⟨K30.out.trans (o4.below.mono K2.size)⟩; have Y4 : P.Sp w4 w1.heap.size x r := ⟨(o4.below.block w1.heap.size (by simp)).trans Y3.out⟩; have u2 : Calls Tryd.prog 25 #[.pointer (some ⟨bk, 0, none⟩), .int .i64 1] w4 _ := S.use_new s4 (Nat.le_trans K3.size o4.size) 1 (by omega) (by simp [S.useAt]) (by omega))
  rw [rounds_succ]
  go_wp2_with (go_at_call 25; (with_reducible refine u2.mono ?_); rintro e w5 ⟨rfl, s5, o5⟩; have K5 : D.Kept w1 w5 := ⟨K4.out.trans (o5.below.mono K2.size)⟩; have Y5 : P.Sp w5 w1.heap.size x r := ⟨(o5.below.block w1.heap.size (by simp)).trans Y4.out⟩)
  rw [rounds_succ]
  have hs5 : S.SAt (w1.alloc (.cells #[.int .u64 (x : Nat), .int .i64 r] 59)).heap.size w5 bk m (m - 1 - 1) ahead := s5
  obtain ⟨gk, a5, hgk, hbk⟩ := S.SAt.toSA hs5 (by simp [ahead, S.useAt]) h64
  rw [show m - 1 - 1 = S.cnt m ahead by have := HC.out; omega] at a5
  have cp : ∀ W, D.Kept w5 W → Calls Tryd.prog 26 #[.pointer (some ⟨bk, 0, none⟩)] W fun e w' => ∃ b' g', e = .returned (.pointer (some ⟨b', 0, none⟩)) ∧ S.SA w' b' g' m (S.cnt m ahead) ahead ∧ W.heap.size ≤ b' ∧ W.heap.size ≤ g' ∧ D.Kept W w' := fun W hW => (S.copy_one (a5.kept ⟨hW.out⟩)).mono (by rintro e w' ⟨b', g', rfl, h1, h2, h3, h4⟩; exact ⟨b', g', rfl, h1, h2, h3, ⟨h4.out⟩⟩)
  obtain ⟨y0, y1⟩ := Y5.cs
  have tok : Hid True := trivial
  have hO5 : On B w w5 := (On.ofD O1).kept K5 hB
  have hB5 : B ≤ w5.heap.size := Nat.le_trans hB hO5.size
  have hBw : B ≤ (w1.alloc (.cells #[.int .u64 (x : Nat), .int .i64 r] 59)).heap.size := Nat.le_trans (Nat.le_trans hB O1.size) K2.size
  have hbk2 : B ≤ bk := Nat.le_trans hBw hbk
  have hgk2 : B ≤ gk := Nat.le_trans hBw hgk
  clear hBw
  have mk : ∀ W : World, (Instr.makeMap 66 none).run Tryd.prog W = .ok (.map (some W.heap.size)) (W.alloc (.map #[] 0)) := fun W => rfl
  clear u1 u2 s3 s4 s5 hs5 o4 o5 K3 K4 K30 Y2 Y3 Y4 f1 f2 f3
  go_wp2
  go_region_held3 (fun W => W.cell? ⟨w1.heap.size, 0, none⟩ = some (.int .u64 (x : Nat)) ∧ W.cell? ⟨w1.heap.size, 1, none⟩ = some (.int .i64 r)) (go_keep) (first
    | (go_at_call 26; clear tok; (with_reducible refine (cp _ (by repeat' first | exact D.Kept.refl _ | refine D.Kept.alloc ?_ _ | refine D.Kept.drew ?_)).mono ?_); rintro e v1 ⟨b1, g1, rfl, s1, l1, l1', q1⟩; have kv1 : D.Kept w5 v1 := D.Kept.trans (by repeat' first | exact D.Kept.refl _ | refine D.Kept.alloc ?_ _ | refine D.Kept.drew ?_) q1; obtain ⟨y10, y11⟩ := (P.Sp.cs ⟨kv1.block Y5.out⟩ : v1.cell? ⟨w1.heap.size, 0, none⟩ = some (.int .u64 (x : Nat)) ∧ _))
    | (go_at_call 26; (with_reducible refine (cp _ (by repeat' first | exact kv1 | refine D.Kept.alloc ?_ _ | refine D.Kept.drew ?_)).mono ?_); rintro e v2 ⟨b2, g2, rfl, s2, l2, l2', q2⟩; have kv2 : D.Kept w5 v2 := D.Kept.trans (by repeat' first | exact kv1 | refine D.Kept.alloc ?_ _ | refine D.Kept.drew ?_) q2; obtain ⟨y20, y21⟩ := (P.Sp.cs ⟨kv2.block Y5.out⟩ : v2.cell? ⟨w1.heap.size, 0, none⟩ = some (.int .u64 (x : Nat)) ∧ _)))
  all_goals go_wp2
  all_goals go_ret2
  all_goals
    have z1 := q1.size
    have z2 := q2.size
    simp at z1 z2
    refine ⟨_, rfl, open_end (w5 := w5) (v1 := v1) (v2 := v2) (d2 := d2) (D.Kept.dk (D.Kept.trans K5 (by (repeat' first | exact D.Kept.refl _ | exact kv2 | exact kv1 | refine D.Kept.trans ?_ q2 | refine D.Kept.trans ?_ q1 | refine D.Kept.alloc ?_ _ | refine D.Kept.drew ?_))) D1) (by rw [HM.out]; exact a5) (by rw [HM.out]; exact s1) (by rw [HM.out]; exact s2) (by (repeat' first | exact D.Kept.refl _ | exact kv2 | exact kv1 | refine D.Kept.trans ?_ q2 | refine D.Kept.trans ?_ q1 | refine D.Kept.alloc ?_ _ | refine D.Kept.drew ?_)) (by (repeat' first | exact D.Kept.refl _ | exact kv2 | exact kv1 | refine D.Kept.trans ?_ q2 | refine D.Kept.trans ?_ q1 | refine D.Kept.alloc ?_ _ | refine D.Kept.drew ?_)) (by (repeat' first | exact D.Kept.refl _ | exact kv2 | exact kv1 | refine D.Kept.trans ?_ q2 | refine D.Kept.trans ?_ q1 | refine D.Kept.alloc ?_ _ | refine D.Kept.drew ?_)) (by first | (refine D.Kept.block (w := (v2).alloc (.map #[] 0)) ?_ (heap_alloc_new _ _); (repeat' first | exact D.Kept.refl _ | exact kv2 | exact kv1 | refine D.Kept.trans ?_ q2 | refine D.Kept.trans ?_ q1 | refine D.Kept.alloc ?_ _ | refine D.Kept.drew ?_); done) | (refine D.Kept.block (w := ((v2).alloc (.map #[] 0)).alloc (.map #[] 0)) ?_ (D.two_new _ _ _); (repeat' first | exact D.Kept.refl _ | exact kv2 | exact kv1 | refine D.Kept.trans ?_ q2 | refine D.Kept.trans ?_ q1 | refine D.Kept.alloc ?_ _ | refine D.Kept.drew ?_); done) | (refine D.Kept.block (w := (v1).alloc (.map #[] 0)) ?_ (heap_alloc_new _ _); (repeat' first | exact D.Kept.refl _ | exact kv2 | exact kv1 | refine D.Kept.trans ?_ q2 | refine D.Kept.trans ?_ q1 | refine D.Kept.alloc ?_ _ | refine D.Kept.drew ?_); done) | (refine D.Kept.block (w := ((v1).alloc (.map #[] 0)).alloc (.map #[] 0)) ?_ (D.two_new _ _ _); (repeat' first | exact D.Kept.refl _ | exact kv2 | exact kv1 | refine D.Kept.trans ?_ q2 | refine D.Kept.trans ?_ q1 | refine D.Kept.alloc ?_ _ | refine D.Kept.drew ?_); done) | (refine D.Kept.block (w := (w5).alloc (.map #[] 0)) ?_ (heap_alloc_new _ _); (repeat' first | exact D.Kept.refl _ | exact kv2 | exact kv1 | refine D.Kept.trans ?_ q2 | refine D.Kept.trans ?_ q1 | refine D.Kept.alloc ?_ _ | refine D.Kept.drew ?_); done) | (refine D.Kept.block (w := ((w5).alloc (.map #[] 0)).alloc (.map #[] 0)) ?_ (D.two_new _ _ _); (repeat' first | exact D.Kept.refl _ | exact kv2 | exact kv1 | refine D.Kept.trans ?_ q2 | refine D.Kept.trans ?_ q1 | refine D.Kept.alloc ?_ _ | refine D.Kept.drew ?_); done) | (refine D.Kept.block (w := (w5.drew).alloc (.map #[] 0)) ?_ (heap_alloc_new _ _); (repeat' first | exact D.Kept.refl _ | exact kv2 | exact kv1 | refine D.Kept.trans ?_ q2 | refine D.Kept.trans ?_ q1 | refine D.Kept.alloc ?_ _ | refine D.Kept.drew ?_); done) | (refine D.Kept.block (w := ((w5.drew).alloc (.map #[] 0)).alloc (.map #[] 0)) ?_ (D.two_new _ _ _); (repeat' first | exact D.Kept.refl _ | exact kv2 | exact kv1 | refine D.Kept.trans ?_ q2 | refine D.Kept.trans ?_ q1 | refine D.Kept.alloc ?_ _ | refine D.Kept.drew ?_); done)) (by first | (refine D.Kept.block (w := (v2).alloc (.map #[] 0)) ?_ (heap_alloc_new _ _); (repeat' first | exact D.Kept.refl _ | exact kv2 | exact kv1 | refine D.Kept.trans ?_ q2 | refine D.Kept.trans ?_ q1 | refine D.Kept.alloc ?_ _ | refine D.Kept.drew ?_); done) | (refine D.Kept.block (w := ((v2).alloc (.map #[] 0)).alloc (.map #[] 0)) ?_ (D.two_new _ _ _); (repeat' first | exact D.Kept.refl _ | exact kv2 | exact kv1 | refine D.Kept.trans ?_ q2 | refine D.Kept.trans ?_ q1 | refine D.Kept.alloc ?_ _ | refine D.Kept.drew ?_); done) | (refine D.Kept.block (w := (v1).alloc (.map #[] 0)) ?_ (heap_alloc_new _ _); (repeat' first | exact D.Kept.refl _ | exact kv2 | exact kv1 | refine D.Kept.trans ?_ q2 | refine D.Kept.trans ?_ q1 | refine D.Kept.alloc ?_ _ | refine D.Kept.drew ?_); done) | (refine D.Kept.block (w := ((v1).alloc (.map #[] 0)).alloc (.map #[] 0)) ?_ (D.two_new _ _ _); (repeat' first | exact D.Kept.refl _ | exact kv2 | exact kv1 | refine D.Kept.trans ?_ q2 | refine D.Kept.trans ?_ q1 | refine D.Kept.alloc ?_ _ | refine D.Kept.drew ?_); done) | (refine D.Kept.block (w := (w5).alloc (.map #[] 0)) ?_ (heap_alloc_new _ _); (repeat' first | exact D.Kept.refl _ | exact kv2 | exact kv1 | refine D.Kept.trans ?_ q2 | refine D.Kept.trans ?_ q1 | refine D.Kept.alloc ?_ _ | refine D.Kept.drew ?_); done) | (refine D.Kept.block (w := ((w5).alloc (.map #[] 0)).alloc (.map #[] 0)) ?_ (D.two_new _ _ _); (repeat' first | exact D.Kept.refl _ | exact kv2 | exact kv1 | refine D.Kept.trans ?_ q2 | refine D.Kept.trans ?_ q1 | refine D.Kept.alloc ?_ _ | refine D.Kept.drew ?_); done) | (refine D.Kept.block (w := (w5.drew).alloc (.map #[] 0)) ?_ (heap_alloc_new _ _); (repeat' first | exact D.Kept.refl _ | exact kv2 | exact kv1 | refine D.Kept.trans ?_ q2 | refine D.Kept.trans ?_ q1 | refine D.Kept.alloc ?_ _ | refine D.Kept.drew ?_); done) | (refine D.Kept.block (w := ((w5.drew).alloc (.map #[] 0)).alloc (.map #[] 0)) ?_ (D.two_new _ _ _); (repeat' first | exact D.Kept.refl _ | exact kv2 | exact kv1 | refine D.Kept.trans ?_ q2 | refine D.Kept.trans ?_ q1 | refine D.Kept.alloc ?_ _ | refine D.Kept.drew ?_); done)) (by omega) hbk2 hgk2 hB5 (by simp) (Nat.le_trans (by simp <;> omega) l1) (Nat.le_trans (by simp <;> omega) l1') (Nat.le_trans (by simp <;> omega) l2) (Nat.le_trans (by simp <;> omega) l2') (by omega) (by omega), hO5.kept (by repeat' first | exact D.Kept.refl _ | exact kv2 | refine D.Kept.alloc ?_ _ | refine D.Kept.drew ?_) hB⟩

/-- Which pages are new, rising. -/
def keysOf (M : Nat → Option Pag) : List Nat := (List.range 1024).filter (fun n => (M n).isSome)

theorem FatesAt.kept {w w' : World} {v : Value} {l : List Int} (h : D.FatesAt 0 w v l) (k : D.Kept w w') : D.FatesAt 0 w' v l := h.on (k.on (Nat.zero_le _))

theorem Wrt.live {d0 d : Dk} {ws : List Wr} (h : Wrt d0 ws d) {k : Nat} (hl : Liv d0 (ws.length + 1 + k)) : Liv d k :=
  ⟨h.flu.up, fun c r hc => by have := hl.far c r (h.cuts ▸ hc); rw [h.since]; omega⟩
theorem Pend.live {d0 d : Dk} {ws : List Wr} (h : Pend d0 ws d) {k : Nat} (hl : Liv d0 (ws.length + k)) : Liv d k :=
  ⟨h.up, fun c r hc => by have := hl.far c r (h.cuts ▸ hc); rw [h.since]; omega⟩

theorem setl_live {d : Dk} (h : Flu d) (hl : Liv d 2) (n : Nat) (hn : n < d.secs.length) (s : ByteArray) (hs : s.size ≤ 256) : ∃ d', setl d (n : Nat) s = (d', 0) ∧ Wrt d [⟨n, whole s⟩] d' := by
  have e1 := write_live (hl.mono (by omega)) n hn s hs
  have p1 := (Pend.nil h).write h ⟨n, whole s⟩ hn (by intro _ h; cases h)
  have e2 := flush_live (p1.live (k := 1) hl)
  refine ⟨_, ?_, p1.flush h⟩
  unfold setl
  rw [e1, if_neg (by simp), e2]

theorem whole_full (s : ByteArray) (h : s.size = 256) : whole s = s := by
  unfold whole
  rw [h]
  cases s
  simp
theorem sup_size (g : Nat) (r : Int) : (bs (supL g r)).size ≤ 256 := by
  rw [P.bs_size]
  by_cases h : Sup g r
  · rw [P.supL_yes h, P.supP_length h]; exact Nat.le_refl _
  · rw [P.supL_no h]; simp
theorem sup_whole {g : Nat} {r : Int} (h : Sup g r) : whole (bs (supL g r)) = bs (supP g r) := by
  rw [P.supL_yes h]
  exact whole_full _ (by rw [P.bs_size, P.supP_length h])
theorem sup11 : Sup 1 (-1) := by unfold Sup; decide

/-- A disk is formatted. -/
theorem fmtd_live {d : Dk} (h : Flu d) (hl : Liv d 5) (h2 : 2 ≤ d.secs.length) : ∃ d1 d', fmtd d = (d', 0) ∧ Wrt d [⟨0, whole ⟨#[]⟩⟩, ⟨1, whole ⟨#[]⟩⟩] d1 ∧ Wrt d1 [⟨1, bs (supP 1 (-1))⟩] d' := by
  have e1 : d.write 0 ⟨#[]⟩ = _ := write_live (hl.mono (j := 1) (by omega)) 0 (by omega) ⟨#[]⟩ (by decide)
  have p1 := (Pend.nil h).write h ⟨0, whole ⟨#[]⟩⟩ (show 0 < _ by omega) (by intro _ h; cases h)
  have l1 : Liv (d.wait ⟨0, whole ⟨#[]⟩⟩).begin 4 := p1.live hl
  have e2 : (d.wait ⟨0, whole ⟨#[]⟩⟩).begin.write 1 ⟨#[]⟩ = _ := write_live (l1.mono (j := 1) (by omega)) 1 (by rw [p1.len]; omega) ⟨#[]⟩ (by decide)
  have p2 := p1.write h ⟨1, whole ⟨#[]⟩⟩ (show 1 < _ by omega) (by intro y hy; simp at hy; subst hy; decide)
  have l2 : Liv ((d.wait ⟨0, whole ⟨#[]⟩⟩).begin.wait ⟨1, whole ⟨#[]⟩⟩).begin 3 := p2.live hl
  have e3 := flush_live (l2.mono (j := 1) (by omega))
  have w1 := p2.flush h
  obtain ⟨d', e4, w2⟩ := setl_live w1.flu (w1.live (k := 2) hl) 1 (by rw [w1.len]; omega) (bs (supL 1 (-1))) (sup_size _ _)
  rw [sup_whole sup11] at w2
  refine ⟨_, d', ?_, w1, w2⟩
  have es : setl (d.wait ⟨0, whole ⟨#[]⟩⟩).begin 1 ⟨#[]⟩ = (((d.wait ⟨0, whole ⟨#[]⟩⟩).begin.wait ⟨1, whole ⟨#[]⟩⟩).begin.begin.good, 0) := by
    unfold setl
    rw [e2, if_neg (by simp), e3]
  unfold fmtd
  rw [e1, if_neg (by simp), es, if_neg (by simp)]
  exact e4

theorem begin_flu {d : Dk} (h : Flu d) : Flu d.begin := ⟨h.waits, h.last, h.up⟩
/-- What a flushed sector says. -/
def sayS (s : Sec) : ByteArray × Int := if s.torn then (⟨#[]⟩, 41) else (s.kept, 0)
theorem read_flu {d : Dk} (h : Flu d) (hl : Liv d 1) {n : Nat} {s : Sec} (hs : d.secs[n]? = some s) : d.read (n : Nat) = (d.begin, sayS s) := by
  have hn : n < d.secs.length := (List.getElem?_eq_some_iff.1 hs).1
  rw [read_live hl n hn]
  have hz := h.last n s hs
  have e : d.begin.says n = sayS s := by
    unfold Dk.says
    show (match d.secs[n]? with | none => _ | some s => _) = _
    rw [hs]
    dsimp only
    rw [hz]
    rfl
  rw [e]

theorem bs_inj {l k : List Nat} (hl : Small l) (hk : Small k) (h : bs l = bs k) : l = k := by
  have := P.bs_eq hl hk
  rw [h] at this
  simpa using this.symm

theorem zeros_n (n : Nat) : (⟨#[] ++ Array.replicate n 0⟩ : ByteArray) = bs (List.replicate n 0) := by
  unfold bs
  simp
theorem zeros_are : whole ⟨#[]⟩ = bs (List.replicate 256 0) := by
  have e : 256 - (⟨#[]⟩ : ByteArray).size = 256 := rfl
  unfold whole
  rw [e]
  exact zeros_n 256
theorem sd_zeros (a : Nat) : Sd (whole ⟨#[]⟩) a none := by
  intro g r h1 h2
  rw [zeros_are] at h2
  have hz : Small (List.replicate 256 0) := by intro x hx; rw [List.eq_of_mem_replicate hx]; decide
  have e := bs_inj hz (P.supP_small g r) h2
  have e1 := (P.supP_okk h1).2.1
  rw [← e] at e1
  have e2 : P.fK (List.replicate 256 0) = 0 := by decide
  rw [e2] at e1
  cases e1
theorem sd_state {g : Nat} {r : Int} (h : Sup g r) {a : Nat} (ha : g % 2 = a) : Sd (bs (supP g r)) a (some (g, r)) := ⟨h, rfl, ha⟩

/-- A pager in memory of which the places that are taken, and those of the next commit, are not told. -/
structure GB (B : Nat) (w : World) (p : Nat) (a : Ad) (q : Pq) : Prop where
  blk : w.heap[p]? = some (.cells (q.cells a) 68)
  disk : D.DiskAt B w a.d a.g q.disk
  sk : S.SA w a.k a.gk q.m (S.cnt q.m q.uk) q.uk
  fm : MAt w a.mf q.fresh
  hm : MAt w a.mh q.held
  mm : a.mf ≠ a.mh
  le : B ≤ p ∧ B ≤ a.k ∧ B ≤ a.gk ∧ B ≤ a.mf ∧ B ≤ a.mh
theorem GB.kept {B : Nat} {w w' : World} {p : Nat} {a : Ad} {q : Pq} (h : GB B w p a q) (k : D.Kept w w') : GB B w' p a q := by
  obtain ⟨_, _, f1⟩ := h.fm.block
  obtain ⟨_, _, h1⟩ := h.hm.block
  exact ⟨k.block h.blk, k.dk h.disk, h.sk.kept ⟨k.out⟩, h.fm.same ((k.block f1).trans f1.symm), h.hm.same ((k.block h1).trans h1.symm), h.mm, h.le⟩
theorem GB.cs {B : Nat} {w : World} {p : Nat} {a : Ad} {q : Pq} (h : GB B w p a q) :
    w.cell? ⟨p, 3, none⟩ = some (.pointer (some ⟨a.k, 0, none⟩)) ∧ w.cell? ⟨p, 4, none⟩ = some (.pointer (some ⟨a.t, 0, none⟩)) ∧ w.cell? ⟨p, 5, none⟩ = some (.pointer (some ⟨a.n, 0, none⟩)) ∧ w.cell? ⟨p, 6, none⟩ = some (.map (some a.mf)) := by
  refine ⟨?_, ?_, ?_, ?_⟩ <;> (rw [cell_of_row w p _ _ _ _ h.blk]; rfl)
theorem ltb {w : World} {b g m l : Nat} {u : Nat → Bool} (h : S.SA w b g m l u) : b < w.heap.size ∧ g < w.heap.size := by
  obtain ⟨⟨_, _, h1⟩, _, _, h2⟩ := h.blocks
  exact ⟨(Array.getElem?_eq_some_iff.1 h1).1, (Array.getElem?_eq_some_iff.1 h2).1⟩

open D (CutsAt)

theorem open_flu {B : Nat} {w : World} {b g m : Nat} {d : Dk} (h : DiskAt B w b g d) (hB : B ≤ w.heap.size) (ok : Ok m d) (hm : m < 49000) (hf : Flu d) (hl : Liv d 2) (h2 : 2 ≤ d.secs.length) (h64 : d.secs.length ≤ 1024) {s0 s1 : Sec} (e0 : d.secs[0]? = some s0) (e1 : d.secs[1]? = some s1)
    {o0 o1 : Option (Nat × Int)} (k0 : Sd (sayS s0).1 0 o0) (k1 : Sd (sayS s1).1 1 o1) (x : Nat × Int) (hp : pick o0 o1 = some x) :
    Calls Tryd.prog 11 #[.pointer (some ⟨b, 0, none⟩)] w fun e w' => ∃ p, e = .returned (.tuple #[.pointer (some ⟨p, 0, none⟩), .int .i64 0]) ∧ GAt B w' p b g (opened d.begin.begin x) ∧ On B w w' := by
  have r0 : d.read 0 = (d.begin, sayS s0) := read_flu hf (hl.mono (by omega)) e0
  have r1 : d.begin.read 1 = (d.begin.begin, sayS s1) := read_flu (begin_flu hf) (begin_live hl) e1
  have t : ∀ s : Sec, (sayS s).2 = 0 ∨ (sayS s).2 = 41 := by intro s; unfold sayS; cases s.torn <;> simp
  have f := committed_yes h hB ok hm (o0 := o0) (o1 := o1) (by rw [r0]; exact t _) (by rw [r0]; show (d.begin.read 1).2.2 = 0 ∨ _; rw [r1]; exact t _) (by rw [r0]; exact k0) (by rw [r0]; show Sd (d.begin.read 1).2.1 1 o1; rw [r1]; exact k1) x hp
  rw [r0] at f
  dsimp only at f
  rw [r1] at f
  exact open_A hB (show 2 ≤ d.begin.begin.secs.length from h2) (show d.begin.begin.secs.length ≤ 1024 from h64) x.1 x.2 f

theorem new_flu (n : Nat) (l : List Ct) : Flu (Dk.new n l) := ⟨rfl, fun i s hs => by
  have : s = ⟨whole ⟨#[]⟩, false, 0⟩ := List.eq_of_mem_replicate (List.mem_of_getElem? hs)
  rw [this], rfl⟩

theorem fmt_new (n : Nat) (h2 : 2 ≤ n) (l : List Ct) (hl : Liv (Dk.new n l) 5) : ∃ d, fmtd (Dk.new n l) = (d, 0) ∧ Flu d ∧ d.secs.length = n ∧ d.secs[0]? = some ⟨whole ⟨#[]⟩, false, 0⟩ ∧ d.secs[1]? = some ⟨bs (supP 1 (-1)), false, 0⟩ ∧ d.cuts = l ∧ d.fails = 0 ∧ d.since = 5 := by
  have e0 : (Dk.new n l).secs.length = n := by simp [Dk.new]
  obtain ⟨d1, d', e, w1, w2⟩ := fmtd_live (new_flu n l) hl (by rw [e0]; exact h2)
  refine ⟨d', e, w2.flu, by rw [w2.len, w1.len, e0], ?_, w2.own ⟨1, bs (supP 1 (-1))⟩ (by simp), by rw [w2.cuts, w1.cuts]; rfl, by rw [w2.fails, w1.fails]; rfl, by rw [w2.since, w1.since]; rfl⟩
  rw [w2.oth 0 (by intro x hx; simp at hx; subst hx; decide)]
  exact w1.own ⟨0, whole ⟨#[]⟩⟩ (by simp)

end Go.Proofs.YtlndfjeijbjdeaaDoor.G