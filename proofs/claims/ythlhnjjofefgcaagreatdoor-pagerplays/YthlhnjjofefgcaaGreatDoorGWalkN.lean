/- The walk of the statements' awake: a page that is committed. No condition but that the library's table is laid. -/
import Derived.Test.YthlhnjjofefgcaaGreatDoorGWalkM
import Derived.Test.YthlhnjjofefgcaaGreatDoorGWalkH
import Derived.Test.YthlhnjjofefgcaaGreatDoorGWalkF
namespace Go.Proofs.YthlhnjjofefgcaaGreatDoor.G
open Go.ChangeShapes Go.WideShapes Go.ChangeAt Go.RowKit
open D (Dk Ok DiskAt Sec Wr Ct CutsAt whole)
open P (bs supL Sup supP Small)

theorem wrt_ok {M : Nat → Option Pag} {m : Nat} {d : Dk} (h : Ok m d) (l : List Nat) (g : Nat) (r : Int) : Ok (m + l.length + 3) (wrt M d l g r).1 := by
  have h1 := wrs_ok (M := M) l h
  unfold wrt
  split
  · exact Ok.mono h1 (by omega)
  · split
    · exact Ok.mono (flush_ok' h1) (by omega)
    · exact Ok.mono (comt_ok (flush_ok' h1) g r) (by omega)

theorem keys_ne (M : Nat → Option Pag) : (keysOf M).Pairwise (· ≠ ·) := (keys_rise M).imp (fun {a b} h => by omega)

/-- A commit that goes on to its end. -/
theorem commit_live {B : Nat} {w : World} {p d g m : Nat} {q : Pq} (h : GAt B w p d g q) (hB : B ≤ w.heap.size) (ok : Ok m q.disk) (hm : m < 48000) (hd : q.doubt = false) (hgen : ∀ n, (atK q.fresh n).gen < 18446744073709551616) (hg : q.gen < 4611686018427387904) (root : Int) (hs : Sup (q.gen + 1) root)
    (hf : Flu q.disk) (hl : Liv q.disk ((keysOf q.fresh).length + 3)) (hk : ∀ n ∈ keysOf q.fresh, n < q.disk.secs.length) (h2 : 2 ≤ q.disk.secs.length) :
    ∃ d1 d', Wrt q.disk (wrl q.fresh (keysOf q.fresh)) d1 ∧ Wrt d1 [⟨(q.gen + 1) % 2, bs (supP (q.gen + 1) root)⟩] d' ∧ Ok (m + (keysOf q.fresh).length + 3) d' ∧
      Calls Tryz.prog 13 #[.pointer (some ⟨p, 0, none⟩), .int .i64 root] w fun r w' => r = .returned (.int .i64 0) ∧ GAt B w' p d g (q.comd d' root) ∧ On B w w' := by
  obtain ⟨d1, d', e, w1, w2⟩ := wrt_live q.fresh hf hl (keys_ne _) hk h2 (q.gen + 1) root hs
  have ok' := wrt_ok (M := q.fresh) ok (keysOf q.fresh) (q.gen + 1) root
  rw [e] at ok'
  obtain ⟨a, rfl, rfl, k⟩ := h.out
  exact ⟨d1, d', w1, w2, ok', commit_ok k hB ok hm hd hgen hg root hs d' false e rfl⟩

/-- The sector of a page says it. -/
theorem sec_says {M : Nat → Option Pag} {n : Nat} {k : Int} {g : Nat} {s : ByteArray} (h : M n = some ⟨k, n, g, s⟩) (h1 : 1 ≤ k) (h4 : k ≤ 4) (hn : n < 16384) (hs : s.size ≤ 237) (hg : g < 18446744073709551616) :
    ∃ l, Small l ∧ P.Okk l ∧ whole (secOf M n) = bs l ∧ (⟨k, n, g, s⟩ : Pag) = ⟨P.fK l, P.fN l, P.fG l, bs (P.fD l)⟩ ∧ P.fN l = n := by
  have ea : atK M n = ⟨k, n, g, s⟩ := by simp [atK, h]
  have hm : P.May k (n : Nat) (P.un s) := ⟨h1, h4, by omega, by omega, by rw [P.un_length]; exact hs⟩
  obtain ⟨o1, o2, o3, o4, o5⟩ := P.page_okk k (n : Nat) g (P.un s) hm hg
  have e1 : secOf M n = bs (P.putL k (n : Nat) g (P.un s)) := by unfold secOf; rw [ea]
  have e2 : (P.putL k ((n : Nat) : Int) g (P.un s)).length = 256 := by rw [P.putL_may hm]; exact P.pageL_length _ _ _ _ (by rw [P.un_length]; exact hs)
  refine ⟨P.putL k (n : Nat) g (P.un s), P.putL_small _ _ _ (P.un_small s), o1, ?_, ?_, by omega⟩
  · rw [e1]; exact whole_full _ (by rw [P.bs_size, e2])
  · rw [o2, o3, o4, o5, P.bs_un]

theorem ahead_first {m : Nat} (h : 3 ≤ m) : S.IsFirst ahead m 2 2 := .inl ⟨2, rfl, Nat.le_refl _, by omega, by decide, fun j h1 h2 => by omega⟩

theorem onKept {w w' : World} (h : On w.heap.size w w') : D.Kept w w' := ⟨h.below⟩

/-- A page of one's own to be read from a disk. -/
theorem look_kept {B : Nat} {w : World} {p m : Nat} {a : Ad} {q : Pq} (h : GA B w p a q) (hB : B ≤ w.heap.size) (ok : Ok m q.disk) (hm : m < 49000) (n : Nat) (h2 : 2 ≤ n) (hn : n < 64) (hx0 : q.fresh n = none) (hf : q.fails = q.disk.fails) (hh : q.held n = none) (hfl : Flu q.disk) (hl : Liv q.disk 1)
    {M : Nat → Option Pag} {k : Int} {g : Nat} {s : ByteArray} (hM : M n = some ⟨k, n, g, s⟩) (h1 : 1 ≤ k) (h4 : k ≤ 4) (hs : s.size ≤ 237) (hg : g < 18446744073709551616) (hsec : q.disk.secs[n]? = some ⟨whole (secOf M n), false, 0⟩) :
    ∀ W, D.Kept w W → Calls Tryz.prog 36 #[.pointer (some ⟨p, 0, none⟩), .int .i64 (n : Nat)] W fun e w' => e = .returned (.tuple #[(⟨k, n, g, s⟩ : Pag).val, .int .i64 0]) ∧ GA B w' p a { q with disk := q.disk.begin, held := putM q.held n ⟨k, n, g, s⟩ } ∧ On B W w' := by
  intro W hW
  obtain ⟨l, hl1, ho, ew, ex, en⟩ := sec_says hM h1 h4 (by omega) hs hg
  have er := read_flu hfl hl hsec
  have := look_disk (h.kept hW) (Nat.le_trans hB hW.size) ok hm n h2 hn hx0 hf hh l hl1 ho (by rw [er, ← ew]; rfl) _ ex en
  rw [er] at this
  exact this

set_option maxRecDepth 100000 in
set_option maxHeartbeats 2000000 in
theorem awake_walk (w : World) (hL : S.Lds w) : Calls Tryz.prog 8 #[] w fun e w' => e = .returned (.bool true) ∧ D.Kept w w' := by
  have hc : CutsAt 0 w (.slice none 0 0) [] := ⟨none, 0, rfl, Nat.le_refl _, Nat.zero_le _, fun j hj => by cases hj⟩
  have f1 : Calls Tryz.prog 7 #[.int .i64 5, .slice none 0 0] w _ := begun_walk 5 (by decide) (by decide) hc (Nat.zero_le _) (Nat.zero_le _) (by intro _ h; cases h) ⟨rfl, by intro _ _ h; cases h⟩
  have hfd0 : ∀ (W : World) (x r : Int), (Instr.field 52 (.agg #[.int .u64 x, .int .i64 r]) 0).run Tryz.prog W = .ok (.int .u64 x) W := fun _ _ _ => by kernel_rfl
  have hfd1 : ∀ (W : World) (x r : Int), (Instr.field 52 (.agg #[.int .u64 x, .int .i64 r]) 1).run Tryz.prog W = .ok (.int .i64 r) W := fun _ _ _ => by kernel_rfl
  have cont : ∀ (w1 : World) (b g p : Nat) (d : Dk), Bg 5 [] d → GAt w.heap.size w1 p b g (opened d (1, -1)) → D.Kept w w1 → ∃ (d2 : Dk) (q2 : Pq),
      Calls Tryz.prog 10 #[.pointer (some ⟨p, 0, none⟩), .int .i64 2, .string ⟨#[120]⟩] w1 (fun e w' => e = .returned (.tuple #[.int .i64 2, .int .i64 0]) ∧ GAt w.heap.size w' p b g ((opened d (1, -1)).add 2 2 ⟨#[120]⟩) ∧ On w.heap.size w1 w') ∧
      (∀ W, GAt w.heap.size W p b g ((opened d (1, -1)).add 2 2 ⟨#[120]⟩) → w.heap.size ≤ W.heap.size → Calls Tryz.prog 13 #[.pointer (some ⟨p, 0, none⟩), .int .i64 2] W (fun e w' => e = .returned (.int .i64 0) ∧ GAt w.heap.size w' p b g (((opened d (1, -1)).add 2 2 ⟨#[120]⟩).comd d2 2) ∧ On w.heap.size W w')) ∧
      (∀ W, DiskAt w.heap.size W b g d2 → w.heap.size ≤ W.heap.size → Calls Tryz.prog 15 #[.pointer (some ⟨b, 0, none⟩)] W (fun e w' => ∃ p2, e = .returned (.tuple #[.pointer (some ⟨p2, 0, none⟩), .int .i64 0]) ∧ GAt w.heap.size w' p2 b g (opened d2.begin.begin (2, 2)) ∧ On w.heap.size W w')) ∧
      (∀ W p2, GAt w.heap.size W p2 b g (opened d2.begin.begin (2, 2)) → Calls Tryz.prog 16 #[.pointer (some ⟨p2, 0, none⟩), .int .i64 2] W (fun e w' => e = .returned (.bool true) ∧ GAt w.heap.size w' p2 b g ((opened d2.begin.begin (2, 2)).mark 2) ∧ On w.heap.size W w')) ∧
      (∀ W p2 kb, GAt w.heap.size W p2 b g ((opened d2.begin.begin (2, 2)).mark 2) → w.heap.size ≤ W.heap.size → W.heap[kb]? = some (.cells #[.int .i64 2] 3) → Calls Tryz.prog 21 #[.pointer (some ⟨p2, 0, none⟩), .int .i64 2, .slice (some ⟨kb, 0, none⟩) 1 1] W (fun e w' => e = .returned (.tuple #[.agg #[.int .i64 2, .int .i64 2, .int .u64 2, .string ⟨#[120]⟩], .int .i64 0]) ∧ GAt w.heap.size w' p2 b g q2 ∧ On w.heap.size W w')) ∧ q2.gen = 2 ∧ q2.root = 2 := by
    intro w1 b g p d hb hG hK
    have fa := add_ok hG hK.size (lds_kept hL hK) 2 (ahead_first (by show 3 ≤ d.secs.length; rw [hb.len]; decide)) (by show 2 < d.secs.length; rw [hb.len]; decide) 2 ⟨#[120]⟩ (show 1 < 4611686018427387904 by decide) (by decide) (by decide) (by decide)
    obtain ⟨M, hM⟩ : ∃ M, ((opened d (1, -1)).add 2 2 ⟨#[120]⟩).fresh = M := ⟨_, rfl⟩
    have ek : keysOf M = [2] := by rw [← hM]; rfl
    have eM : M 2 = some ⟨2, (2 : Nat), 2, ⟨#[120]⟩⟩ := by rw [← hM]; rfl
    have hlv : ∀ k, Liv d k := fun k => ⟨hb.flu.up, by intro c r h; rw [hb.cuts] at h; cases h⟩
    have s22 : Sup (1 + 1) 2 := by unfold Sup; decide
    obtain ⟨d1, d2, e, w1', w2'⟩ := wrt_live M hb.flu (l := keysOf M) (hlv _) (keys_ne M) (by rw [ek]; intro n hn; simp at hn; subst hn; rw [hb.len]; decide) (by rw [hb.len]; decide) (1 + 1) 2 s22
    have ok2 := wrt_ok (M := M) hb.ok (keysOf M) (1 + 1) 2
    rw [e, ek] at ok2
    rw [ek] at w1'
    have lv2 : ∀ k, Liv d2 k := fun k => ⟨w2'.flu.up, by intro c r h; rw [w2'.cuts, w1'.cuts, hb.cuts] at h; cases h⟩
    have t0 : d2.secs[0]? = some ⟨bs (supP 2 2), false, 0⟩ := w2'.own ⟨0, bs (supP 2 2)⟩ (by simp)
    have t1 : d2.secs[1]? = some ⟨bs (supP 1 (-1)), false, 0⟩ := by
      rw [w2'.oth 1 (by intro x hx; simp at hx; subst hx; decide), w1'.oth 1 (by intro x hx; simp [wrl] at hx; subst hx; show 2 ≠ 1; decide)]
      exact hb.s1
    have t2 : d2.secs[2]? = some ⟨whole (secOf M 2), false, 0⟩ := by
      rw [w2'.oth 2 (by intro x hx; simp at hx; subst hx; decide)]
      exact w1'.own ⟨2, whole (secOf M 2)⟩ (by simp [wrl])
    have ln2 : d2.secs.length = 5 := by rw [w2'.len, w1'.len, hb.len]
    have fl2 : d2.fails = 0 := by rw [w2'.fails, w1'.fails, hb.fails]
    refine ⟨d2, { (opened d2.begin.begin (2, 2)).mark 2 with disk := d2.begin.begin.begin, held := putM (fun _ => none) 2 ⟨2, (2 : Nat), 2, ⟨#[120]⟩⟩ }, fa, ?_, ?_, ?_, ?_, rfl, rfl⟩
    · intro W hW hBW
      obtain ⟨a, rfl, rfl, k⟩ := hW.out
      refine commit_ok k hBW hb.ok (by decide) rfl (fun n => ?_) (show 1 < 4611686018427387904 by decide) 2 s22 d2 false (by rw [hM]; exact e) rfl
      rw [hM]
      have : ∀ n, (atK M n).gen < 18446744073709551616 := by
        rw [← hM]
        intro n
        show ((putM (fun _ => none) 2 _ n).getD Pag.zero).gen < _
        unfold putM
        split
        · show 1 + 1 < 18446744073709551616; decide
        · show 0 < 18446744073709551616; decide
      exact this n
    · intro W hW hBW
      exact open_flu hW hBW ok2 (by decide) w2'.flu (lv2 2) (by rw [ln2]; decide) (by rw [ln2]; decide) t0 t1 (o0 := some (2, 2)) (o1 := some (1, -1)) (sd_state s22 rfl) (sd_state sup11 rfl) (2, 2) rfl
    · intro W p2 hW
      exact mark_yes hW 2 (by show 2 < d2.secs.length; rw [ln2]; decide) rfl
    · intro W p2 kb hW hBW hkb
      obtain ⟨a, rfl, rfl, k⟩ := hW.out
      have fl := look_kept k hBW (m := 20) (Ok.mono (D.begin_ok (D.begin_ok ok2)) (by decide)) (by decide) 2 (by decide) (by decide) rfl (show 0 = d2.fails by rw [fl2]) rfl (begin_flu (begin_flu w2'.flu)) (begin_live (begin_live (lv2 3))) eM (by decide) (by decide) (by decide) (by decide) t2
      refine (read_yes (n := 2) hBW hkb _ fl rfl).mono ?_
      rintro e w' ⟨rfl, g, n⟩
      exact ⟨rfl, ⟨a, rfl, rfl, g⟩, n⟩
  clear hc
  have HC : Hid _ := cont
  clear cont
  go_enter Tryz.func8, Tryz.ntmps8
  go_wp2_with (first
    | (go_at_call 7; (with_reducible refine f1.mono ?_); rintro e w1 ⟨b, g, p, d, rfl, hbg, hG1, hK1⟩; obtain ⟨d2, q2, g10, g13, g15, g16, g21, hq1, hq2⟩ := HC.out w1 b g p d hbg hG1 hK1)
    | (go_at_call 10; (with_reducible refine g10.mono ?_); rintro e w2 ⟨rfl, hG2, n2⟩; have B2 := Nat.le_trans hK1.size n2.size; have h13 := g13 w2 hG2 B2)
    | (go_at_call 13; (with_reducible refine h13.mono ?_); rintro e w3 ⟨rfl, hG3, n3⟩; have B3 := Nat.le_trans B2 n3.size; have hD3 : DiskAt w.heap.size w3 b g d2 := (by obtain ⟨a, rfl, rfl, k⟩ := hG3.out; exact k.disk); have h15 := g15 w3 hD3 B3)
    | (go_at_call 15; (with_reducible refine h15.mono ?_); rintro e w4 ⟨p2, rfl, hG4, n4⟩; have B4 := Nat.le_trans B3 n4.size; have h16 := g16 w4 p2 hG4)
    | (go_at_call 16; (with_reducible refine h16.mono ?_); rintro e w5 ⟨rfl, hG5, n5⟩; have B5 := Nat.le_trans B4 n5.size; have K6 : D.Kept w5 (w5.alloc (.cells #[.int .i64 2] 3)) := (D.Kept.refl w5).alloc _; have hG6 : GAt w.heap.size (w5.alloc (.cells #[.int .i64 2] 3)) p2 b g _ := (by obtain ⟨a, e1, e2, k⟩ := hG5.out; exact ⟨a, e1, e2, k.kept K6⟩); have h21 := g21 _ p2 w5.heap.size hG6 (Nat.le_trans B5 K6.size) (heap_alloc_new w5 _))
    | (go_at_call 21; (with_reducible refine h21.mono ?_); rintro e w7 ⟨rfl, hG7, n7⟩; have K8 : D.Kept w7 (w7.alloc (.cells #[.int .i64 2, .int .i64 2, .int .u64 2, .string ⟨#[120]⟩] 55)) := (D.Kept.refl w7).alloc _; have hG8 : GAt w.heap.size (w7.alloc (.cells #[.int .i64 2, .int .i64 2, .int .u64 2, .string ⟨#[120]⟩] 55)) p2 b g q2 := (by obtain ⟨a, e1, e2, k⟩ := hG7.out; exact ⟨a, e1, e2, k.kept K8⟩); have hst := state_walk hG8; rw [hq1, hq2] at hst)
    | (go_at_call 20; (with_reducible refine hst.mono ?_); rintro e w9 ⟨rfl, K9⟩; have hG9 : GAt w.heap.size w9 p2 b g q2 := (by obtain ⟨a, e1, e2, k⟩ := hG8.out; exact ⟨a, e1, e2, k.kept K9⟩); have hst2 := state_walk hG9; rw [hq1, hq2] at hst2; clear hst)
    | (go_at_call 20; (with_reducible refine hst2.mono ?_); rintro e wA ⟨rfl, KA⟩))
  go_ret
  have b7 : Below w.heap.size w w7 := ((((((hK1.out.trans n2.below).trans n3.below).trans n4.below).trans n5.below).alloc B5 _).trans n7.below)
  have B7 : w.heap.size ≤ w7.heap.size := b7.size
  have b8 := b7.alloc B7 (.cells #[.int .i64 2, .int .i64 2, .int .u64 2, .string ⟨#[120]⟩] 55)
  have b9 := b8.trans (K9.out.mono b8.size)
  exact ⟨rfl, ⟨b9.trans (KA.out.mono b9.size)⟩⟩
end Go.Proofs.YthlhnjjofefgcaaGreatDoor.G
