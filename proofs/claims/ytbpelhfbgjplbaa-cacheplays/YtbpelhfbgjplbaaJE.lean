/- A ring of what is held: one leaves it, one enters it, one is made the newest. Conditions: those that each row names. -/
import Derived.Test.YtbpelhfbgjplbaaJD
namespace Go.Proofs.Ytbpelhfbgjplbaa.Ca
open Go.ChangeShapes Go.WideShapes Go.ChangeAt Go.RowKit
open N (Kept)
open Q (kept_cell)

/-- A key that is held: where, its text, whether it has one, whether it is to be written. -/
structure En where
  b : Nat
  k : ByteArray
  t : ByteArray
  i : Bool
  d : Bool
/-- What stands in its block. -/
structure Is (G : Nat → Option It) (x : En) : Prop where
  out : ∃ y, G x.b = some y ∧ y.k = x.k ∧ y.t = x.t ∧ y.i = x.i
def bl (es : List En) : List Nat := es.map (·.b)
theorem bl_app (A B : List En) : bl (A ++ B) = bl A ++ bl B := by simp [bl]
structure Rg (G : Nat → Option It) (e : Nat) (es : List En) : Prop where
  ring : Ring (nx G) (pv G) e (bl es)
  fin : ∃ y, G e = some y
  at' : ∀ x ∈ es, Is G x
theorem Rg.some {G : Nat → Option It} {e : Nat} {es : List En} (h : Rg G e es) {a : Nat} (ha : a ∈ e :: bl es) : ∃ y, G a = some y := by
  rcases List.mem_cons.1 ha with rfl | ha
  · exact h.fin
  · obtain ⟨x, hx, rfl⟩ := List.mem_map.1 ha
    obtain ⟨y, hy, _⟩ := (h.at' x hx).out
    exact ⟨y, hy⟩
theorem Is.sN {G : Nat → Option It} {x : En} (h : Is G x) (a v : Nat) : Is (sN G a v) x := by
  obtain ⟨y, h1, h2, h3, h4⟩ := h.out
  obtain ⟨z, g1, g2, g3, g4, _⟩ := sN_at a v h1
  exact ⟨z, g1, g2.trans h2, g3.trans h3, g4.trans h4⟩
theorem Is.sO {G : Nat → Option It} {x : En} (h : Is G x) (a v : Nat) : Is (sO G a v) x := by
  obtain ⟨y, h1, h2, h3, h4⟩ := h.out
  obtain ⟨z, g1, g2, g3, g4, _⟩ := sO_at a v h1
  exact ⟨z, g1, g2.trans h2, g3.trans h3, g4.trans h4⟩
theorem nx_sN {G : Nat → Option It} {a : Nat} {y : It} (h : G a = some y) (v x : Nat) : nx (sN G a v) x = if x = a then v else nx G x := by
  unfold nx sN
  by_cases e : x = a
  · subst e; rw [if_pos rfl, if_pos rfl, h]; rfl
  · rw [if_neg e, if_neg e]
theorem pv_sN {G : Nat → Option It} (a v x : Nat) : pv (sN G a v) x = pv G x := by
  unfold pv sN
  by_cases e : x = a
  · subst e; rw [if_pos rfl]; cases G x <;> rfl
  · rw [if_neg e]
theorem pv_sO {G : Nat → Option It} {a : Nat} {y : It} (h : G a = some y) (v x : Nat) : pv (sO G a v) x = if x = a then v else pv G x := by
  unfold pv sO
  by_cases e : x = a
  · subst e; rw [if_pos rfl, if_pos rfl, h]; rfl
  · rw [if_neg e, if_neg e]
theorem nx_sO {G : Nat → Option It} (a v x : Nat) : nx (sO G a v) x = nx G x := by
  unfold nx sO
  by_cases e : x = a
  · subst e; rw [if_pos rfl]; cases G x <;> rfl
  · rw [if_neg e]
theorem sN_some {G : Nat → Option It} (a v : Nat) {b : Nat} (h : ∃ y, G b = some y) : ∃ y, sN G a v b = some y := by
  obtain ⟨y, hy⟩ := h
  obtain ⟨z, hz, _⟩ := sN_at a v hy
  exact ⟨z, hz⟩
theorem sO_some {G : Nat → Option It} (a v : Nat) {b : Nat} (h : ∃ y, G b = some y) : ∃ y, sO G a v b = some y := by
  obtain ⟨y, hy⟩ := h
  obtain ⟨z, hz, _⟩ := sO_at a v hy
  exact ⟨z, hz⟩

/-- Those that are not on the ring. -/
structure Ls (w : World) (G : Nat → Option It) (X : List En) : Prop where
  out : ∀ x ∈ X, Il w x.b x.k x.t x.i ∧ G x.b = none
theorem Il.ky {w w' : World} {b : Nat} {k t : ByteArray} {i : Bool} (h : Il w b k t i) (hk : ∀ cs fr, w.heap[b]? = some (.cells cs 56 fr) → w'.heap[b]? = some (.cells cs 56 fr)) : Il w' b k t i := by
  obtain ⟨u, v, h1⟩ := h.out
  exact ⟨u, v, hk _ _ h1⟩
theorem Rg.dom {G : Nat → Option It} {e : Nat} {es : List En} (h : Rg G e es) {a : Nat} (ha : G a = none) : a ∉ e :: bl es := fun hm => by
  obtain ⟨y, hy⟩ := h.some hm
  rw [ha] at hy; cases hy
theorem Ls.ky {w w' : World} {G : Nat → Option It} {X : List En} (h : Ls w G X) (hk : ∀ x ∈ X, ∀ cs fr, w.heap[x.b]? = some (.cells cs 56 fr) → w'.heap[x.b]? = some (.cells cs 56 fr)) : Ls w' G X := ⟨fun x hx => ⟨(h.out x hx).1.ky (hk x hx), (h.out x hx).2⟩⟩
/-- Without one. -/
def rem (G : Nat → Option It) (b : Nat) : Nat → Option It := fun y => if y = b then none else G y
theorem rem_ne (G : Nat → Option It) {b y : Nat} (h : y ≠ b) : rem G b y = G y := if_neg h
theorem rem_eq (G : Nat → Option It) (b : Nat) : rem G b b = none := if_pos rfl
theorem IA.rem {w : World} {G : Nat → Option It} (h : IA w G) (b : Nat) : IA w (rem G b) := ⟨fun c x hx => by
  by_cases e : c = b
  · subst e; rw [rem_eq] at hx; cases hx
  · rw [rem_ne G e] at hx; exact h.out c x hx⟩
theorem ring_congr {N P N' P' : Nat → Nat} {e : Nat} {L : List Nat} (h : Ring N P e L) (hN : ∀ x ∈ e :: L, N' x = N x) (hP : ∀ x ∈ e :: L, P' x = P x) : Ring N' P' e L :=
  ⟨ch_congr _ h.ch (fun x hx => hN x (by
    have h1 : (e :: (L ++ [e])).dropLast = e :: L := by rw [← List.cons_append, List.dropLast_concat]
    rwa [h1] at hx)) (fun y hy => hP y (by
    simp only [List.tail_cons, List.mem_append, List.mem_singleton] at hy
    rcases hy with hy | rfl
    · simp [hy]
    · simp)), h.nd⟩
theorem Rg.rem {G : Nat → Option It} {e b : Nat} {es : List En} (h : Rg G e es) (hb : b ∉ e :: bl es) : Rg (rem G b) e es := by
  have hne : ∀ x ∈ e :: bl es, x ≠ b := fun x hx e2 => hb (by rw [← e2]; exact hx)
  refine ⟨ring_congr h.ring (fun x hx => ?_) (fun x hx => ?_), ?_, fun x hx => ?_⟩
  · unfold nx; rw [rem_ne G (hne x hx)]
  · unfold pv; rw [rem_ne G (hne x hx)]
  · rw [rem_ne G (hne e (by simp))]; exact h.fin
  · obtain ⟨y, h1, h2⟩ := (h.at' x hx).out
    exact ⟨y, by rw [rem_ne G (hne x.b (by simp [bl]; exact .inr ⟨x, hx, rfl⟩))]; exact h1, h2⟩
theorem sN_none {G : Nat → Option It} {a v b : Nat} (h : G b = none) : sN G a v b = none := by
  unfold sN
  by_cases e : b = a
  · subst e; rw [if_pos rfl, h]; rfl
  · rw [if_neg e]; exact h
theorem sO_none {G : Nat → Option It} {a v b : Nat} (h : G b = none) : sO G a v b = none := by
  unfold sO
  by_cases e : b = a
  · subst e; rw [if_pos rfl, h]; rfl
  · rw [if_neg e]; exact h
/-- What is held, in memory, beside those that are not on the ring; and with one more of these. -/
structure Hs (X : List En) (w : World) (e : Nat) (es : List En) : Prop where
  out : ∃ G, IA w G ∧ Rg G e es ∧ Ls w G X
structure Lo (X : List En) (w : World) (e : Nat) (es : List En) (x : En) : Prop where
  out : ∃ G, IA w G ∧ Rg G e es ∧ Ls w G X ∧ Il w x.b x.k x.t x.i ∧ G x.b = none ∧ ∀ y ∈ X, y.b ≠ x.b
variable {X : List En}
theorem Hs.kept {w w' : World} {e : Nat} {es : List En} (h : Hs X w e es) (k : Kept w w') : Hs X w' e es := by
  obtain ⟨G, h1, h2, h3⟩ := h.out
  exact ⟨G, h1.kept k, h2, h3.ky fun x _ cs fr e => k.block e⟩
theorem Lo.hs {w : World} {e : Nat} {es : List En} {x : En} (h : Lo X w e es x) : Hs X w e es := by
  obtain ⟨G, h1, h2, h3, _⟩ := h.out
  exact ⟨G, h1, h2, h3⟩
/-- The one more among the others, and back. -/
theorem Lo.more {w : World} {e : Nat} {es : List En} {x : En} (h : Lo X w e es x) : Hs (x :: X) w e es := by
  obtain ⟨G, h1, h2, h3, h4, h5, _⟩ := h.out
  refine ⟨G, h1, h2, ⟨fun y hy => ?_⟩⟩
  rcases List.mem_cons.1 hy with rfl | hy
  · exact ⟨h4, h5⟩
  · exact h3.out y hy
theorem Hs.less {w : World} {e : Nat} {es : List En} {x : En} (h : Hs (x :: X) w e es) (hx : ∀ y ∈ X, y.b ≠ x.b) : Lo X w e es x := by
  obtain ⟨G, h1, h2, h3⟩ := h.out
  exact ⟨G, h1, h2, ⟨fun y hy => h3.out y (List.mem_cons_of_mem _ hy)⟩, (h3.out x (by simp)).1, (h3.out x (by simp)).2, hx⟩

/-- From B on what is held lies. -/
structure Bd (B e : Nat) (es : List En) : Prop where
  e : B ≤ e
  es : ∀ x ∈ es, B ≤ x.b
theorem Bd.mem {B e : Nat} {es : List En} (h : Bd B e es) {a : Nat} (ha : a ∈ e :: bl es) : B ≤ a := by
  rcases List.mem_cons.1 ha with rfl | ha
  · exact h.e
  · obtain ⟨x, hx, rfl⟩ := List.mem_map.1 ha
    exact h.es x hx

theorem leave_calls {w : World} {B e : Nat} {A C : List En} {x : En} (h : Hs X w e (A ++ x :: C)) (hB : Bd B e (A ++ x :: C)) :
    Calls Try.prog 34 #[.pointer (some ⟨x.b, 0, none⟩)] w fun r w' => r = .returned (.tuple #[]) ∧ Lo X w' e (A ++ C) x ∧ Fi B w w' := by
  obtain ⟨G, h1, h2, h3⟩ := h.out
  have hr := h2.ring
  rw [show bl (A ++ x :: C) = bl A ++ x.b :: bl C by simp [bl]] at hr
  obtain ⟨o, n, eo, en, mo, mn, hall, heb⟩ := hr.both
  have mo' : o ∈ e :: bl (A ++ x :: C) := by
    rw [bl_app]
    rcases List.mem_cons.1 mo with rfl | mo
    · simp
    · simp [mo]
  have mn' : n ∈ e :: bl (A ++ x :: C) := by
    have : bl (A ++ x :: C) = bl A ++ x.b :: bl C := by simp [bl]
    rw [this]
    rcases List.mem_append.1 mn with mn | mn
    · simp [mn]
    · simp at mn; simp [mn]
  obtain ⟨yo, ho⟩ := h2.some mo'
  obtain ⟨yn, hn⟩ := h2.some mn'
  have hx := h2.at' x (by simp)
  obtain ⟨y, hb, _⟩ := hx.out
  have hob : o ≠ x.b := by
    rcases List.mem_cons.1 mo with rfl | mo
    · exact heb
    · exact hall o (by simp [mo])
  have hnb : n ≠ x.b := by
    rcases List.mem_append.1 mn with mn | mn
    · exact hall n (by simp [mn])
    · simp at mn; rw [mn]; exact heb
  have eo' : y.o = o := by rw [← eo, pv_eq hb]
  have en' : y.n = n := by rw [← en, nx_eq hb]
  refine (leave_walk h1 hb eo' en' ho hn hob hnb (hB.mem mo') (hB.mem mn')).mono ?_
  rintro r w' ⟨rfl, g1, g2, g3⟩
  obtain ⟨yn', hn'⟩ := sN_some o n ⟨yn, hn⟩
  have hbn : x.b ∉ e :: bl (A ++ C) := by
    intro hm
    rcases List.mem_cons.1 hm with hm | hm
    · exact heb hm.symm
    · rw [bl_app] at hm
      exact hall _ hm rfl
  have R : Rg (sO (sN G o n) n o) e (A ++ C) := by
    refine ⟨?_, sO_some _ _ (sN_some _ _ h2.fin), fun z hz => ((h2.at' z ?_).sN _ _).sO _ _⟩
    · rw [bl_app]
      refine hr.leave (fun v => ?_) (fun v => ?_)
      · rw [nx_sO, nx_sN ho, eo, en]
      · rw [pv_sO hn', pv_sN, eo, en]
    · rcases List.mem_append.1 hz with hz | hz
      · simp [hz]
      · simp [hz]
  obtain ⟨y', hy', hk1, hk2, hk3⟩ := ((hx.sN o n).sO n o).out
  refine ⟨rfl, ⟨_, g1.rem x.b, R.rem hbn, ⟨fun z hz => ⟨(h3.out z hz).1.ky fun cs fr e1 => g3.out _ _ e1 (h3.out z hz).2, ?_⟩⟩, ⟨.pointer (some ⟨y'.o, 0, none⟩), .pointer (some ⟨y'.n, 0, none⟩), ?_⟩, rem_eq _ _, fun z hz ez => ?_⟩, g2⟩
  · have hzn := (h3.out z hz).2
    by_cases ez : z.b = x.b
    · rw [ez]; exact rem_eq _ _
    · rw [rem_ne _ ez]; exact sO_none (sN_none hzn)
  · rw [g1.out _ _ hy']
    unfold It.cells
    rw [hk1, hk2, hk3]
  · have := (h3.out z hz).2
    rw [ez, hb] at this; cases this

theorem nx_upd (G : Nat → Option It) (b : Nat) (y : It) (v : Nat) : nx (upd G b y) v = if v = b then y.n else nx G v := by
  unfold nx upd
  by_cases e : v = b
  · rw [if_pos e, if_pos e]
  · rw [if_neg e, if_neg e]
theorem pv_upd (G : Nat → Option It) (b : Nat) (y : It) (v : Nat) : pv (upd G b y) v = if v = b then y.o else pv G v := by
  unfold pv upd
  by_cases e : v = b
  · rw [if_pos e, if_pos e]
  · rw [if_neg e, if_neg e]
theorem enter_calls {w : World} {B p : Nat} {q : Cc} {es : List En} {x : En} (hc : CB w p q) (h : Lo X w q.e es x) (hB : Bd B q.e es) (hx : B ≤ x.b) :
    Calls Try.prog 33 #[.pointer (some ⟨p, 0, none⟩), .pointer (some ⟨x.b, 0, none⟩)] w fun r w' => r = .returned (.tuple #[]) ∧ Hs X w' q.e (es ++ [x]) ∧ Fi B w w' := by
  obtain ⟨G, h1, h2, hX, h3, hgn, h5⟩ := h.out
  have h4 := h2.dom hgn
  obtain ⟨ye, he⟩ := h2.fin
  have hne : q.e ≠ x.b := fun e => h4 (by simp [e])
  have hz : pv G q.e ∈ q.e :: bl es := by
    have hch := h2.ring.ch
    obtain ⟨A', a, ea⟩ := snoc_of q.e (bl es)
    rw [← List.cons_append, ea, List.append_assoc, List.cons_append, List.nil_append, ch_split A' a [q.e]] at hch
    rw [hch.2.2.1, ea]; simp
  obtain ⟨yz, hyz⟩ := h2.some hz
  have hzb : pv G q.e ≠ x.b := fun e => h4 (by rw [← e]; exact hz)
  refine (enter_walk hc h1 rfl h3 he (pv_eq he).symm hyz hne hzb hx hB.e (hB.mem hz)).mono ?_
  rintro r w' ⟨rfl, g1, g2, g3⟩
  generalize hn : pv G q.e = n at *
  have u1 : ∀ v, v ≠ x.b → upd G x.b ⟨x.k, x.t, x.i, n, q.e⟩ v = G v := fun v hv => upd_ne _ _ hv
  have hn2 : upd G x.b ⟨x.k, x.t, x.i, n, q.e⟩ n = some yz := by rw [u1 n hzb]; exact hyz
  have he2 : ∃ y, sN (upd G x.b ⟨x.k, x.t, x.i, n, q.e⟩) n x.b q.e = some y := sN_some _ _ ⟨ye, by rw [u1 _ hne]; exact he⟩
  refine ⟨rfl, ⟨_, g1, ⟨?_, sO_some _ _ he2, fun z hz => ?_⟩, ⟨fun z hz => ⟨(hX.out z hz).1.ky fun cs fr e1 => g3 _ _ (h5 z hz) e1 (hX.out z hz).2, ?_⟩⟩⟩, g2⟩
  · rw [bl_app]
    obtain ⟨y3, he3⟩ := he2
    refine h2.ring.enter h4 (fun v => ?_) (fun v => ?_)
    · rw [nx_sO, nx_sN hn2, nx_upd, hn]
    · rw [pv_sO he3, pv_sN, pv_upd, hn]
  · have : Is (upd G x.b ⟨x.k, x.t, x.i, n, q.e⟩) z := by
      rcases List.mem_append.1 hz with hz | hz
      · obtain ⟨y, y1, y2⟩ := (h2.at' z hz).out
        exact ⟨y, by rw [u1 _ (fun e => h4 (by rw [← e]; simp [bl]; exact .inr ⟨z, hz, rfl⟩))]; exact y1, y2⟩
      · simp at hz; subst hz; exact ⟨_, upd_eq _ _ _, rfl, rfl, rfl⟩
    exact (this.sN _ _).sO _ _
  · exact sO_none (sN_none (by rw [u1 _ (h5 z hz)]; exact (hX.out z hz).2))

set_option maxRecDepth 100000 in
theorem renew_walk {w : World} {B p : Nat} {q : Cc} {A C : List En} {x : En} (hc : CB w p q) (h : Hs X w q.e (A ++ x :: C)) (hB : Bd B q.e (A ++ x :: C)) :
    Calls Try.prog 29 #[.pointer (some ⟨p, 0, none⟩), .pointer (some ⟨x.b, 0, none⟩)] w fun r w' => r = .returned (.tuple #[]) ∧ Hs X w' q.e (A ++ C ++ [x]) ∧ Fi B w w' := by
  have l1 := leave_calls h hB
  have hx := hB.es x (by simp)
  have HB : Bd B q.e (A ++ C) := ⟨hB.e, fun z hz => hB.es z (by
    rcases List.mem_append.1 hz with hz | hz
    · simp [hz]
    · simp [hz])⟩
  clear h hB
  go_enter Try.func29, Try.ntmps29
  go_wp2_with (first
    | (go_at_call 34; (with_reducible refine l1.mono ?_); rintro r w1 ⟨rfl, h1, f1⟩; have F1 : Hid (Fi B w w1) := f1; have l2 := enter_calls (hc.fi f1) h1 HB hx; clear h1 f1 l1)
    | (go_at_call 33; (with_reducible refine l2.mono ?_); rintro r w2 ⟨rfl, h2, f2⟩; have FI : Hid (Hs X w2 q.e (A ++ C ++ [x]) ∧ Fi B w w2) := ⟨h2, F1.out.trans f2⟩; clear h2 f2 l2))
  go_end0
  exact ⟨rfl, FI.out⟩
end Go.Proofs.Ytbpelhfbgjplbaa.Ca
