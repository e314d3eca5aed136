/- The walk of write: new pages are written, rising, flushed, and the state's sector behind them. Conditions: a pager that is not in doubt; generations of 64 bits. -/
import Derived.Test.YthlhnjjofefgcaaGreatDoorGWalkJ
import Derived.Deep.DrawnRows
namespace Go.Proofs.YthlhnjjofefgcaaGreatDoor.G
open Go.ChangeShapes Go.WideShapes Go.ChangeAt Go.RowKit
open D (Dk Ok DiskAt)
open P (bs supL Sup supP Small)

/-- Which pages are new, rising. -/
def keysOf (M : Nat → Option Pag) : List Nat := (List.range 64).filter (fun n => (M n).isSome)

theorem keys_rise (M : Nat → Option Pag) : (keysOf M).Pairwise (· < ·) := List.Pairwise.filter _ List.pairwise_lt_range
theorem mem_keys {M : Nat → Option Pag} {n : Nat} : n ∈ keysOf M ↔ n < 64 ∧ (M n).isSome = true := by simp [keysOf]

theorem sorted_eq {w : World} {b : Nat} {M : Nat → Option Pag} {D0 : DataW Unit} (h1 : w.ownsMap Tryz.prog 3 R4 b (Maps.size D0) D0) (h2 : ∀ k : Nat, Maps.has D0 (.int .i64 (k : Nat)) = (M k).isSome) (h4 : ∀ x : Int, Maps.has D0 (.int .i64 x) = true → ∃ k : Nat, x = (k : Int) ∧ k < 64)
    {ss : List Int} (hp : ss.Perm (intKeys D0)) : ss.mergeSort (fun x y => decide (x ≤ y)) = (keysOf M).map (fun n : Nat => (n : Int)) := by
  obtain ⟨k1, k2, _⟩ := keys_facts h1
  have tr : ∀ a b c : Int, decide (a ≤ b) = true → decide (b ≤ c) = true → decide (a ≤ c) = true := fun a b c h1 h2 => by simp only [decide_eq_true_eq] at *; omega
  have tot : ∀ a b : Int, (decide (a ≤ b) || decide (b ≤ a)) = true := fun a b => by simp only [Bool.or_eq_true, decide_eq_true_eq]; omega
  have nd : ((keysOf M).map (fun n : Nat => (n : Int))).Nodup := List.pairwise_map.2 ((keys_rise M).imp (fun {a b} h => by omega))
  refine List.Perm.eq_of_pairwise (le := fun a b => decide (a ≤ b) = true) (fun a b _ _ h1 h2 => by simp only [decide_eq_true_eq] at h1 h2; omega) (List.pairwise_mergeSort tr tot ss) (List.pairwise_map.2 ((keys_rise M).imp (fun {a b} h => by simp only [decide_eq_true_eq]; omega))) ?_
  refine ((List.mergeSort_perm ss _).trans hp).trans ((List.perm_ext_iff_of_nodup k1 nd).2 fun x => ?_)
  rw [k2 x, List.mem_map]
  constructor
  · intro hx
    obtain ⟨k, rfl, hk⟩ := h4 x hx
    exact ⟨k, mem_keys.2 ⟨hk, by rw [← h2]; exact hx⟩, rfl⟩
  · rintro ⟨k, hk, rfl⟩
    rw [h2]
    exact (mem_keys.1 hk).2

theorem sorted_keys {w : World} {b : Nat} {M : Nat → Option Pag} (h : MAt w b M) :
    Calls Tryz.prog 50 #[.func (.func 70) #[] #[.pointer (some ⟨w.heap.size, 0, none⟩)]] (w.alloc (.cells #[.map (some b)] 66)) fun e w' => ∃ v, e = .returned v ∧ D.FatesAt 0 w' v ((keysOf M).map (fun n : Nat => (n : Int))) ∧ D.Kept w w' := by
  obtain ⟨D0, h1, h0, h2, h3, h4⟩ := h.few
  refine (Tryz.sorted_call b _ D0 R4 w h1 (by unfold maxLen; omega) (by omega)).mono ?_
  rintro e w' ⟨v, ss, rfl, hp, hrow, _, hb⟩
  have e := sorted_eq h1 h2 h4 hp
  have e2 : ss.length = ((keysOf M).map (fun n : Nat => (n : Int))).length := by rw [← e, List.length_mergeSort]
  rw [e, e2] at hrow
  exact ⟨v, rfl, D.FatesAt.own hrow, ⟨hb⟩⟩

theorem FatesAt.kept {w w' : World} {v : Value} {l : List Int} (h : D.FatesAt 0 w v l) (k : D.Kept w w') : D.FatesAt 0 w' v l := h.on (k.on (Nat.zero_le _))
theorem FatesAt.onD {B : Nat} {w w' : World} {v : Value} {l : List Int} (h : D.FatesAt 0 w v l) (k : D.On B w w') : D.FatesAt 0 w' v l := h.on (k.mono (Nat.zero_le _))
theorem FatesAt.len {w : World} {v : Value} {l : List Int} (h : D.FatesAt 0 w v l) : ∃ p c, v = .slice p l.length c := by
  obtain ⟨p, c, hv, _⟩ := h.out
  exact ⟨p, c, hv⟩

theorem put_at {M : Nat → Option Pag} (hgen : ∀ n, (atK M n).gen < 18446744073709551616) (n : Nat) (W : World) :
    Calls Tryz.prog 52 #[(atK M n).val] W fun e w' => e = .returned (.string (secOf M n)) ∧ P.Kept W w' := by
  have := P.put_walk (atK M n).kind (atK M n).num (atK M n).gen (hgen n) (P.un (atK M n).data) W
  rw [P.bs_un] at this
  exact this

theorem calm52D {B : Nat} {w w' : World} {b : Nat} {g r : Int} (h : P.Sp w b g r) (o : On B w w') : P.Sp w' b g r := ⟨o.rows _ _ _ _ h.out calm52'⟩

/-- While new pages are written. -/
structure Lp (B : Nat) (w : World) (p : Nat) (a : Ad) (q : Pq) (l : List Nat) (x : Nat) (r : Int) (v : Value) (i : Nat) (wx : World) : Prop where
  ga : GA B wx p a { q with disk := (wrs q.fresh q.disk (l.take i)).1 }
  no : (wrs q.fresh q.disk (l.take i)).2 = 0
  row : D.FatesAt 0 wx v (l.map (fun n : Nat => (n : Int)))
  st : P.Sp wx w.heap.size x r
  on : On B w wx

theorem take_more {l : List Nat} {i : Nat} (h : i < l.length) : l.take (i + 1) = l.take i ++ [l[i]] := by rw [List.take_succ_eq_append_getElem h]
theorem wrs_next {M : Nat → Option Pag} {d : Dk} {l : List Nat} {i : Nat} (h : i < l.length) (h0 : (wrs M d (l.take i)).2 = 0) : wrs M d (l.take (i + 1)) = (wrs M d (l.take i)).1.write (l[i] : Nat) (secOf M l[i]) := by
  rw [take_more h, wrs_snoc M _ _ _ h0]
theorem wrs_end {M : Nat → Option Pag} {d : Dk} {l : List Nat} {i : Nat} (h : i < l.length) (h0 : (wrs M d (l.take i)).2 = 0) (h1 : ((wrs M d (l.take i)).1.write (l[i] : Nat) (secOf M l[i])).2 ≠ 0) : wrs M d l = (wrs M d (l.take i)).1.write (l[i] : Nat) (secOf M l[i]) := by
  have e := wrs_next h h0
  have e2 : l = l.take (i + 1) ++ l.drop (i + 1) := (List.take_append_drop _ _).symm
  have e3 := wrs_stop M (l.drop (i + 1)) (l.take (i + 1)) d (by rw [e]; exact h1)
  rw [← e2] at e3
  rw [e3, e]
theorem row_get {w : World} {pv : Option Addr} {cv : Nat} {l : List Nat} (h : D.FatesAt 0 w (.slice pv l.length cv) (l.map (fun n : Nat => (n : Int)))) (i : Nat) (hi : i < l.length) :
    ∃ b off, pv = some ⟨b, off, none⟩ ∧ w.cell? ⟨b, off + i, none⟩ = some (.int .i64 (l[i] : Nat)) := by
  obtain ⟨p', c', hv, hc⟩ := h.out
  injection hv with e1 _ _
  subst e1
  obtain ⟨b, off, hp, _, hx⟩ := hc i (by simpa using hi)
  refine ⟨b, off, hp, ?_⟩
  rw [hx]
  simp [List.getD, hi]

set_option maxRecDepth 100000 in
set_option maxHeartbeats 4000000 in
theorem write_walk {B : Nat} {w : World} {p m : Nat} {a : Ad} {q : Pq} (h : GA B w p a q) (hB : B ≤ w.heap.size) (ok : Ok m q.disk) (hm : m < 48000) (hd : q.doubt = false) (hgen : ∀ n, (atK q.fresh n).gen < 18446744073709551616) (x : Nat) (r : Int) :
    Calls Tryz.prog 31 #[.pointer (some ⟨p, 0, none⟩), .agg #[.int .u64 (x : Nat), .int .i64 r]] w fun e w' => e = .returned (.int .i64 (wrt q.fresh q.disk (keysOf q.fresh) x r).2.1) ∧ GA B w' p a { q with disk := (wrt q.fresh q.disk (keysOf q.fresh) x r).1, doubt := (wrt q.fresh q.disk (keysOf q.fresh) x r).2.2 } ∧ On B w w' := by
  obtain ⟨l, hl⟩ : ∃ l, keysOf q.fresh = l := ⟨_, rfl⟩
  have hl64 : l.length ≤ 64 := by rw [← hl]; unfold keysOf; exact Nat.le_trans (List.length_filter_le _ _) (by simp)
  have hlk : ∀ n ∈ l, n < 64 := fun n hn => (mem_keys.1 (by rw [hl]; exact hn)).1
  rw [hl]
  have K1 : D.Kept w (w.alloc (.cells #[.int .u64 (x : Nat), .int .i64 r] 52)) := (D.Kept.refl w).alloc _
  have Y1 := P.Sp.alloc w x r
  obtain ⟨y10, y11⟩ := Y1.cs
  have k1 := h.kept K1
  have f1 := back_none k1 hd x r
  have hL : Hid (∀ n ∈ l, n < 64) := hlk
  have HG : Hid (∀ n, (atK q.fresh n).gen < 18446744073709551616) := hgen
  have hdt : Hid (q.doubt = false) := hd
  clear hlk hgen hd
  go_enter Tryz.func31, Tryz.ntmps31
  go_wp2_with (first
    | (go_at_call 49; (with_reducible refine f1.mono ?_); rintro e w1 ⟨rfl, K2⟩; have k2 := k1.kept K2; have Y2 : P.Sp w1 w.heap.size x r := ⟨K2.block Y1.out⟩; obtain ⟨c0, c1, c2, c3, c4, c5, c6, c7, c8, c9⟩ := k2.cs; have f2 := Tryz.keys_call (some a.mf) w1; have f3 := sorted_keys k2.fm; rw [hl] at f3)
    | (go_at_call 51; (with_reducible refine f2.mono ?_); rintro e w2 ⟨rfl, hw2⟩; rw [hw2]; clear hw2)
    | (go_at_call 50; (with_reducible refine f3.mono ?_); rintro e w3 ⟨v, rfl, F3, K3⟩; have k3 := k2.kept K3; have Y3 : P.Sp w3 w.heap.size x r := ⟨K3.block Y2.out⟩; obtain ⟨pv, cv, hv⟩ := FatesAt.len F3; subst hv; have N3 : On B w w3 := ((On.ofKept K1 hB).kept K2 hB).kept K3 hB))
  rw [List.length_map] at F3
  have HL : Hid (Lp B w p a q l x r (.slice pv l.length cv) 0 w3) := ⟨k3, rfl, F3, Y3, N3⟩
  have hi23 : (l.length : Int) ≤ 64 := by omega
  clear k3 F3 Y3 N3 k2 Y2 K2 K3 f1 f2 f3 c0 c1 c2 c3 c4 c5 c6 c7 c8 c9 k1 Y1 y10 y11 K1
  go_loopg [24] l.length (fun n c wx => ∃ i : Nat, i + n = l.length ∧ c = .int .i64 i ∧ Lp B w p a q l x r (.slice pv l.length cv) i wx)
  case atStart => exact ⟨0, by omega, rfl, HL.out⟩
  case round =>
    obtain ⟨i, hin, rfl, LP⟩ := hrel
    clear HL
    have okI := wrs_ok (M := q.fresh) (l.take i) ok
    rw [List.length_take] at okI
    have okI' : Ok (m + 64) (wrs q.fresh q.disk (l.take i)).1 := Ok.mono okI (by omega)
    obtain ⟨c0, c1, c2, c3, c4, c5, c6, c7, c8, c9⟩ := LP.ga.cs
    have hBr := Nat.le_trans hB LP.on.size
    by_cases hlt : i < l.length
    · obtain ⟨vb, vo, rfl, hcell⟩ := row_get LP.row i hlt
      have hn64 := hL.out l[i] (List.getElem_mem hlt)
      have i1 : (0 : Int) ≤ (i : Int) := by omega
      have i2 : (i : Int) < (l.length : Int) := by omega
      have HE := wrs_end hlt LP.no
      have HN := wrs_next hlt LP.no
      obtain ⟨n, hnn⟩ : ∃ n, l[i] = n := ⟨_, rfl⟩
      rw [hnn] at HE HN hcell hn64
      have fp : ∀ W, Calls Tryz.prog 52 #[(atK q.fresh n).val] W fun e w' => e = .returned (.string (secOf q.fresh n)) ∧ P.Kept W w' := fun W => put_at HG.out n W
      have fw : ∀ W, DiskAt B W a.d a.g (wrs q.fresh q.disk (l.take i)).1 → B ≤ W.heap.size → Calls Tryz.prog 41 #[.pointer (some ⟨a.d, 0, none⟩), .int .i64 (n : Nat), .string (secOf q.fresh n)] W fun e w' => e = .returned (.int .i64 ((wrs q.fresh q.disk (l.take i)).1.write (n : Nat) (secOf q.fresh n)).2) ∧ DiskAt B w' a.d a.g ((wrs q.fresh q.disk (l.take i)).1.write (n : Nat) (secOf q.fresh n)).1 ∧ D.On B W w' := fun W k1 k2 => D.write_walk k1 k2 okI' (by omega) _ _
      have lk := MAt.get (w := wr.drew) (LP.ga.fm.same rfl) n (by omega)
      have LP' : Hid (Lp B w p a q l x r (.slice (some ⟨vb, vo, none⟩) l.length cv) i wr) := LP
      have hD := LP.ga.disk
      clear LP okI okI' hnn
      have HE' : Hid (((wrs q.fresh q.disk (l.take i)).1.write (n : Nat) (secOf q.fresh n)).2 ≠ 0 → wrs q.fresh q.disk l = (wrs q.fresh q.disk (l.take i)).1.write (n : Nat) (secOf q.fresh n)) := HE
      have HN' : Hid (wrs q.fresh q.disk (l.take (i + 1)) = (wrs q.fresh q.disk (l.take i)).1.write (n : Nat) (secOf q.fresh n)) := HN
      clear HE HN
      obtain ⟨z, hz⟩ : ∃ z, (wrs q.fresh q.disk (l.take i)).1.write (n : Nat) (secOf q.fresh n) = z := ⟨_, rfl⟩
      rw [hz] at fw HE' HN'
      generalize secOf q.fresh n = SS at fp fw
      generalize (wrs q.fresh q.disk (l.take i)).1 = di at fw hD
      dsimp only at hD
      generalize atK q.fresh n = xx at fp lk
      obtain ⟨xk, xn, xg, xs⟩ := xx
      dsimp only [Pag.val] at fp lk
      clear hz
      obtain ⟨zd, ze⟩ := z
      go_wp2
      go_region_held3 (fun W => W.cell? ⟨p, 0, none⟩ = some (.pointer (some ⟨a.d, 0, none⟩)) ∧ W.cell? ⟨p, 6, none⟩ = some (.map (some a.mf))) (first | trivial | go_keep) (first
        | (go_at_call 52; (with_reducible refine (fp _).mono ?_); rintro e v1 ⟨rfl, q1⟩; have K1 : D.Kept wr v1 := D.Kept.trans ((D.Kept.refl wr).drew) ⟨q1.out⟩; have g1 := LP'.out.ga.kept K1; obtain ⟨u0, _, _, _, _, _, u6, _, _, _⟩ := g1.cs; have hB1 := Nat.le_trans hBr K1.size)
        | (go_at_call 41; (with_reducible refine (fw _ (K1.dk hD) hB1).mono ?_); rintro e v2 ⟨rfl, d2, o2⟩; have g2 := g1.onD o2 d2; obtain ⟨x0, _, _, _, _, _, x6, _, _, _⟩ := g2.cs; have N2 := (LP'.out.on.kept K1 hB).trans (On.ofD o2)))
      by_cases hze : ze = 0
      · subst hze
        go_wp2
        obtain ⟨n', rfl⟩ : ∃ n', gk = n' + 1 := ⟨gk - 1, by omega⟩
        go_roundg n'
        case measure => omega
        case rel =>
          have e1 := HN'.out
          refine ⟨i + 1, by omega, by go_num, ⟨by rw [e1]; exact g2, by rw [e1], FatesAt.onD (FatesAt.kept LP'.out.row K1) o2, calm52D (⟨K1.block LP'.out.st.out⟩ : P.Sp v1 _ _ _) (On.ofD o2), N2⟩⟩
      · have hne : (ze != 0) = true := by simpa using hze
        go_wp2
        go_ret
        have e1 := HE'.out hze
        have e2 : wrt q.fresh q.disk l x r = (zd, ze, false) := by unfold wrt; rw [e1, if_pos hze]
        rw [e2]
        exact ⟨rfl, by rw [← hdt.out]; exact g2, N2⟩
    · have hie : l.take i = l := List.take_of_length_le (by omega)
      have hil : i = l.length := by omega
      subst hil
      have LP' : Hid (Lp B w p a q l x r (.slice pv l.length cv) l.length wr) := LP
      have hD := LP.ga.disk
      have hno := LP.no
      have hga := LP.ga
      have hst := LP.st
      have hon := LP.on
      rw [hie] at hD hno okI' hga
      clear LP okI LP' hie
      have ff := D.flush_walk hD hBr okI' (by omega)
      have okF := flush_ok' okI'
      have fc : ∀ W, DiskAt B W a.d a.g (wrs q.fresh q.disk l).1.flush.1 → B ≤ W.heap.size → Calls Tryz.prog 43 #[.pointer (some ⟨a.d, 0, none⟩), .agg #[.int .u64 (x : Nat), .int .i64 r]] W fun e w' => e = .returned (.int .i64 (comt (wrs q.fresh q.disk l).1.flush.1 x r).2) ∧ DiskAt B w' a.d a.g (comt (wrs q.fresh q.disk l).1.flush.1 x r).1 ∧ D.On B W w' := fun W k1 k2 => commit_walk k1 k2 okF (by omega) x r
      have HW : Hid (wrt q.fresh q.disk l x r = if (wrs q.fresh q.disk l).1.flush.2 ≠ 0 then ((wrs q.fresh q.disk l).1.flush.1, (wrs q.fresh q.disk l).1.flush.2, false) else ((comt (wrs q.fresh q.disk l).1.flush.1 x r).1, (comt (wrs q.fresh q.disk l).1.flush.1 x r).2, decide ((comt (wrs q.fresh q.disk l).1.flush.1 x r).2 ≠ 0))) := by
        show wrt q.fresh q.disk l x r = _
        unfold wrt
        rw [if_neg (by simpa using hno)]
      clear okF okI' hno
      generalize comt (wrs q.fresh q.disk l).1.flush.1 x r = zc at fc HW
      generalize (wrs q.fresh q.disk l).1.flush = zf at ff fc HW
      obtain ⟨fd, fe⟩ := zf
      obtain ⟨cd, ce⟩ := zc
      by_cases hfe : fe = 0
      · subst hfe
        go_wp2_with (go_at_call 53; (with_reducible refine ff.mono ?_); rintro e v1 ⟨rfl, d1, o1⟩; have g1 := hga.onD o1 d1; obtain ⟨u0, u1, u2, u3, u4, u5, u6, u7, u8, u9⟩ := g1.cs; have s1 := calm52D hst (On.ofD o1); obtain ⟨s10, s11⟩ := s1.cs; have N1 := hon.trans (On.ofD o1); have hB1 := Nat.le_trans hB N1.size)
        go_region_held3 (fun W => W.cell? ⟨p, 0, none⟩ = some (.pointer (some ⟨a.d, 0, none⟩)) ∧ W.cell? ⟨w.heap.size, 0, none⟩ = some (.int .u64 (x : Nat)) ∧ W.cell? ⟨w.heap.size, 1, none⟩ = some (.int .i64 r)) (first | trivial | go_keep) (first
          | (go_at_call 43; (with_reducible refine (fc v1.drew (((D.Kept.refl v1).drew).dk d1) (Nat.le_trans hB1 ((D.Kept.refl v1).drew).size)).mono ?_); rintro e v2 ⟨rfl, d2, o2⟩; have g2 : GA B v2 p a { q with disk := cd } := GA.onD (g1.kept ((D.Kept.refl v1).drew)) o2 d2; obtain ⟨t0, t1, t2, t3, t4, t5, t6, t7, t8, t9⟩ := g2.cs; have t9f := g2.fz 9; have s2 : P.Sp v2 w.heap.size x r := calm52D (⟨((D.Kept.refl v1).drew).block s1.out⟩ : P.Sp v1.drew _ _ _) (On.ofD o2); obtain ⟨s20, s21⟩ := s2.cs; obtain ⟨gT, nT⟩ := g2.setDoubt (decide (ce ≠ 0)); have N2 : On B w v2 := (N1.drew).trans (On.ofD o2)))
        by_cases hce : ce = 0
        · subst hce
          have gT' : GA B (v2.setCell ⟨p, 9, none⟩ (.bool false)) p a { q with disk := cd, doubt := false } := gT
          have nT' : On B v2 (v2.setCell ⟨p, 9, none⟩ (.bool false)) := nT
          clear gT nT
          go_wp2
          go_ret
          rw [HW.out, if_neg (by simp)]
          exact ⟨rfl, gT', N2.trans nT'⟩
        · have hne : (ce != 0) = true := by simpa using hce
          rw [show decide (ce ≠ 0) = true by simpa using hce] at gT nT
          go_wp2
          go_ret
          rw [HW.out, if_neg (by simp)]
          rw [show decide (ce ≠ 0) = true by simpa using hce]
          exact ⟨rfl, gT, N2.trans nT⟩
      · have hne : (fe != 0) = true := by simpa using hfe
        go_wp2_with (go_at_call 53; (with_reducible refine ff.mono ?_); rintro e v1 ⟨rfl, d1, o1⟩; have g1 := hga.onD o1 d1; have N1 := hon.trans (On.ofD o1))
        go_ret
        rw [HW.out, if_pos hfe]
        exact ⟨rfl, by rw [← hdt.out]; exact g1, N1⟩
end Go.Proofs.YthlhnjjofefgcaaGreatDoor.G
