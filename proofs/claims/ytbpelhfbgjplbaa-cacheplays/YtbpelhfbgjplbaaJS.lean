/- The walk of Sync. Conditions: those that each row names. -/
import Derived.Test.YtbpelhfbgjplbaaJR
namespace Go.Proofs.Ytbpelhfbgjplbaa.Ca
open Go.ChangeShapes Go.WideShapes Go.ChangeAt Go.RowKit
open N (Kept)
open Q (kept_cell Kv Vn Km m_get m_put m_del Own sc one_cellA one_str)
variable {E : Nat → Prop} {X : List En}

/-- While what was changed is written: the first i keys of the row are. -/
structure Sy (E' : Nat → Prop) (w wx : World) (B p m kb n i nn cc : Nat) (pp : Option Addr) (l : List ByteArray) (q' : Cc) (es' : List En) (n' : Nat) (F : ByteArray → Option ByteArray) : Prop where
  cm : ∃ f', CM E' [] wx B p q' es' n' f' ∧ Iv es' f' F
  rest : ∀ x, x ∈ l.drop i ↔ (cmap es' x).isSome = true
  mq : q'.m = (m : Nat) ∧ q'.b = kb
  len : es'.length ≤ m
  few : n' ≤ n + i
  row : Own wx w.heap.size pp nn cc l
  prot : ∀ a, pp = some a → E' a.block
  vc : Vc NE B w wx
theorem Sy.cell {E' : Nat → Prop} {w wx : World} {B p m kb n i nn cc n' : Nat} {pp : Option Addr} {l : List ByteArray} {q' : Cc} {es' : List En} {F : ByteArray → Option ByteArray} (h : Sy E' w wx B p m kb n i nn cc pp l q' es' n' F) {x : ByteArray} (hx : l[i]? = some x) :
    ∃ A y C, es' = A ++ y :: C ∧ y.k = x ∧ y.d = true ∧ (∃ g, pp = some ⟨g, 0, none⟩ ∧ wx.cell? ⟨g, i, none⟩ = some (.string x)) ∧ wx.cell? ⟨p, 3, none⟩ = some (.map (some q'.mc)) ∧
      (Instr.lookup 57 (.map (some q'.mc)) (.string x) false).run Try.prog wx = .ok (.pointer (some ⟨y.b, 0, none⟩)) wx := by
  obtain ⟨f', M, iv⟩ := h.cm
  have hm : x ∈ l.drop i := List.mem_of_getElem? (i := 0) (by rw [List.getElem?_drop]; simpa using hx)
  have hs := (h.rest x).1 hm
  obtain ⟨b, hb⟩ := Option.isSome_iff_exists.1 hs
  obtain ⟨y, hy, ⟨h1, h2⟩, h3⟩ := (cmap_iff M.kn x b).1 hb
  obtain ⟨A, C, rfl⟩ := List.append_of_mem hy
  obtain ⟨g, e, c, _⟩ := h.row.at hx
  have lk := M.cm.look x (by rw [← h1]; exact M.sz y (by simp))
  rw [hb] at lk
  exact ⟨A, y, C, rfl, h1, h2, ⟨g, e, c⟩, M.cb.c.2.2.2.1, by rw [h3]; exact lk⟩
theorem Sy.step {E' : Nat → Prop} {w wx w' : World} {B p m kb n i nn cc n' n2 : Nat} {z : Int} {pp : Option Addr} {l : List ByteArray} {q' : Cc} {A C : List En} {y : En} {f' F : ByteArray → Option ByteArray} (h : Sy E' w wx B p m kb n i nn cc pp l q' (A ++ y :: C) n' F) (hnd : l.Nodup) (hx : l[i]? = some y.k)
    (M : CM E' [] wx B p q' (A ++ y :: C) n' f') (iv : Iv (A ++ y :: C) f' F) (hn2 : n2 ≤ n' + 1) (M2 : CM E' [] w' B p { q' with x := z } (A ++ y.done :: C) n2 (wrt f' y)) (v : Vc E' B wx w') : ∃ q2 n2, Sy E' w w' B p m kb n (i + 1) nn cc pp l q2 (A ++ y.done :: C) n2 F := by
  refine ⟨{ q' with x := z }, n2, ⟨⟨_, M2, iv.done M.kn⟩, fun x => ?_, h.mq, by have := h.len; simpa using this, by have := h.few; omega, h.row.far fun a ha => ?_, h.prot, h.vc.trans v.free⟩⟩
  · rw [done_cmap M.kn]
    have hd : l.drop i = y.k :: l.drop (i + 1) := by
      obtain ⟨hi, e⟩ := List.getElem?_eq_some_iff.1 hx
      rw [← e]; exact List.drop_eq_getElem_cons hi
    have hnd2 : (y.k :: l.drop (i + 1)).Nodup := by rw [← hd]; exact hnd.sublist (List.drop_sublist i l)
    by_cases e : x = y.k
    · subst e
      rw [if_pos rfl]
      constructor
      · exact fun hm => ((List.nodup_cons.1 hnd2).1 hm).elim
      · exact fun hm => by cases hm
    · rw [if_neg e, ← h.rest x, hd]
      simp [e]
  · have := h.row
    rw [ha] at this
    obtain ⟨hB, cs, hb⟩ := this.blk
    have hcl : Cl E' a.block (.cells cs 9) := by
      refine ⟨fun _ _ q => (by cases q), fun cs t fr q => ?_⟩
      injection q with _ q _
      subst q
      exact ⟨by decide, by decide, by decide, fun _ => h.prot a ha⟩
    exact (v.oth a.block _ hb hcl).trans hb.symm

/-- Behind Sync all is below. -/
structure Sn (w w' : World) (B p m kb n : Nat) (F : ByteArray → Option ByteArray) : Prop where
  out : ∃ (q' : Cc) (es' : List En) (n' : Nat), n' ≤ n + m ∧ (q'.m = (m : Nat) ∧ q'.b = kb) ∧ es'.length ≤ m ∧ CM NE [] w' B p q' es' n' F ∧ Iv es' F F
  vc : Vc NE B w w'
theorem Sy.fin {E' : Nat → Prop} {w wx : World} {B p m kb n nn cc n' : Nat} {pp : Option Addr} {l : List ByteArray} {q' : Cc} {es' : List En} {F : ByteArray → Option ByteArray} (h : Sy E' w wx B p m kb n nn nn cc pp l q' es' n' F) (hl : nn ≤ m) : Sn w wx B p m kb n F := by
  obtain ⟨f', M, iv⟩ := h.cm
  have hlen := h.row.len
  have hno : ∀ k, cmap es' k = none := fun k => by
    have := h.rest k
    rw [List.drop_of_length_le (by omega)] at this
    cases hc : cmap es' k with
    | none => rfl
    | some b => rw [hc] at this; exact absurd (this.2 rfl) (by simp)
  have e := iv.all hno
  subst e
  exact ⟨⟨q', es', n', by have := h.few; omega, h.mq, h.len, M.free, iv⟩, h.vc⟩

set_option maxRecDepth 100000 in
set_option maxHeartbeats 8000000 in
theorem sync_walk {w : World} {B p m kb n : Nat} {q : Cc} {es : List En} {F : ByteArray → Option ByteArray} (h : Us NE w B p m kb n q es F) :
    Calls Try.prog 12 #[.pointer (some ⟨p, 0, none⟩)] w fun r w' => r = .returned (.int .i64 0) ∧ Sn w w' B p m kb n F := by
  obtain ⟨f, M, iv⟩ := h.cm
  obtain ⟨i0, hi0, hz0, hz1, hz2⟩ := info_parts Q.info9
  have i1 := idle_walk M.cb
  obtain ⟨_, _, _, c3, _⟩ := M.cb.c
  obtain ⟨D, ho, hsz, hhas, _⟩ := M.cm.out
  have hcnt : cnt es ≤ m := Nat.le_trans (List.length_filter_le _ _) h.len
  have hm900 := h.most
  have hmc := M.cm.lt
  have H0 : Hid (∀ W pp nn cc l, Kept w W → Own W w.heap.size pp nn cc l → (∀ x, x ∈ l ↔ Maps.has D (kl x) = true) → Sy (fun b => ∃ a, pp = some a ∧ b = a.block) w W B p m kb n 0 nn cc pp l q es n F) := by
    intro W pp nn cc l k o hmem
    refine ⟨⟨f, M.guard k _ ?_, iv⟩, fun x => ?_, ⟨h.m', h.b'⟩, h.len, by omega, o, fun a ha => ⟨a, ha, rfl⟩, Vc.of k M.base⟩
    · rintro x ⟨a, ha, rfl⟩
      subst ha
      obtain ⟨hB, cs, hb⟩ := o.blk
      exact ⟨hB, (Array.getElem?_eq_some_iff.1 hb).1⟩
    · rw [List.drop_zero, hmem, hhas]
  have hfew := h.few
  have HK : Hid (n ≤ 90000) := hfew
  clear M iv hsz hhas h hfew
  go_enter Try.func12, Try.ntmps12
  go_wp2_with (first
    | (go_at_call 18; (with_reducible refine i1.mono ?_); rintro r w1 ⟨rfl, hw1⟩; rw [hw1]; clear hw1 i1)
    | (at_range; refine wpList_range_own _ rfl _ 57 rfl 9 54 keyed Try.underlying57 _ q.mc _ _ rfl ho ?_; intro w4 hrg4 hg4 hs4)
    | go_in)
  go_frame
  have S4 : Hid (Sr w w4 q.mc w.heap.size (cnt es) D (Maps.has D) (Maps.size D) 0 0 none []) := ⟨hrg4, by have := ho.size_le; omega, Q.own_nil _ _, Coll.start D, keptBy (Kept.refl w) hg4 (fun k e => by cases e)⟩
  clear hrg4 hg4 hs4 ho
  go_loopw [3] (fun v wr => ∃ (left : Lit → Bool) (cc mm qc : Nat) (qq : Option Addr) (l : List ByteArray), v = .slice qq mm qc ∧ Hid (Sr w wr q.mc w.heap.size (cnt es) D left cc mm qc qq l)) (fun _ wr => wr.rangeLeft q.mc w.heap.size)
  case atStart => exact ⟨_, _, 0, 0, none, [], rfl, S4⟩
  case round =>
    obtain ⟨left, cc, mm, qc, qq, l, rfl, S⟩ := hrel
    clear S4
    have hrg := S.out.rg
    have hmm : mm + cc ≤ cnt es := S.out.few
    have invK : ∀ key kl, keyOf Try.prog 9 key = some kl → ∃ x : ByteArray, key = Value.string x := fun key kl hk => by obtain ⟨x, e, _⟩ := WideMaps.string_of_keyOf Try.underlying9 hk; exact ⟨x, e⟩
    have invV : ∀ v y, Rp v = some y → ∃ c : Option Nat, v = ptr c := fun v y hv => by obtain ⟨c, e, _⟩ := Rp_inv hv; exact ⟨c, e⟩
    go_wp2_with (first
      | (at_next; refine wpList_next_ranges _ rfl _ rfl 9 keyed Rp (fun x : ByteArray => Value.string x) ptr invK invV q.mc w.heap.size _ _ _ _ rfl hrg ?_ ?_)
      | go_in)
    · intro hc0 hl0
      have hmem : ∀ x, x ∈ l ↔ Maps.has D (kl x) = true := fun x => by rw [S.out.col.mem, hl0]; simp
      have hln := S.out.own.len
      have sw := Q.sort_walk S.out.own (by omega)
      clear hrg invK invV
      go_wp2_with (go_at_call 24; (with_reducible refine sw.mono ?_); rintro r w6 ⟨rfl, ⟨l', pl, o6⟩, g6⟩; have K6 : Hid (Kept w w6) := keptBy S.out.low g6 (fun k hk => (S.out.own.out.lt k hk).1); have Y0 : Hid _ := H0.out w6 qq mm qc l' K6.out o6 (fun x => by rw [pl.mem_iff]; exact hmem x); have ND : Hid (l'.Nodup) := pl.nodup_iff.2 S.out.col.nd; have HL : Hid (l'.length = mm) := o6.len; clear sw o6 g6 pl hmem)
      go_loopg [27] mm (fun gg iv wx => ∃ (i : Nat) (q' : Cc) (es' : List En) (n' : Nat), iv = .int .i64 (i : Nat) ∧ Hid (gg = mm - i) ∧ i ≤ mm ∧ Hid (Sy (fun b => ∃ a, qq = some a ∧ b = a.block) w wx B p m kb n i mm qc qq l' q' es' n' F))
      case atStart => exact ⟨0, q, es, n, rfl, rfl, Nat.zero_le _, Y0⟩
      case round =>
        obtain ⟨i, q', es', n', rfl, hg, hin, Y⟩ := hrel
        clear Y0
        by_cases h1 : (i : Int) < (mm : Int)
        · obtain ⟨x, hx⟩ : ∃ x, l'[i]? = some x := ⟨_, List.getElem?_eq_getElem (by rw [HL.out]; omega)⟩
          obtain ⟨A, y, C, e1, e2, hyd, ⟨g, e3, cg⟩, d3, lk⟩ := Y.out.cell hx
          subst e1
          subst e2
          subst e3
          have HX : Hid (l'[i]? = some y.k) := hx
          have hw2 : Calls Try.prog 25 #[.pointer (some ⟨p, 0, none⟩), .pointer (some ⟨y.b, 0, none⟩)] wr fun r w' => r = .returned (.int .i64 0) ∧ ∃ q2 n2, Sy (fun b => ∃ a, some (⟨g, 0, none⟩ : Addr) = some a ∧ b = a.block) w w' B p m kb n (i + 1) mm qc (some ⟨g, 0, none⟩) l' q2 (A ++ y.done :: C) n2 F := by
            obtain ⟨f', M, iv⟩ := Y.out.cm
            refine (write_walk M (by have := Y.out.few; have := HK.out; omega)).mono ?_
            rintro r w' ⟨rfl, ⟨n2, hn2, M2⟩, v⟩
            refine ⟨rfl, ?_⟩
            exact Sy.step Y.out ND.out HX.out M iv hn2 M2 v
          clear hx hyd
          go_wp2_with (go_at_call 25; (with_reducible refine hw2.mono ?_); rintro r w7 ⟨rfl, q2, n2, Y2⟩; have YY : Hid _ := Y2; clear Y2 hw2)
          go_roundg (mm - (i + 1))
          case measure => rw [hg.out]; omega
          case rel => exact ⟨i + 1, q2, _, n2, by go_num, rfl, by omega, YY⟩
        · obtain rfl : i = mm := by omega
          go_wp2
          go_ret
          exact ⟨rfl, Y.out.fin (by omega)⟩
    · intro x c kl' y y' w1 cnt1 hkey hlk hv hat hrg1 hlt hg1 hs1 hen
      obtain ⟨x', ex, rfl, _⟩ := WideMaps.string_of_keyOf Try.underlying9 hkey
      obtain rfl : x = x' := by injection ex
      have K1 : Kept w w1 := keptBy S.out.low hg1 (fun k hk => by injection hk with hk; omega)
      have HN : Hid (∀ (v' : Value) (w5 : World), w5.ownsRow w.heap.size 9 1 v' (mm + 1) (sc l ++ [.string x]) → (w1.alloc (.cells #[.string x] 9)).grownBy w5 (Value.slice qq mm qc).ownBlock → ∃ qq' qc', v' = .slice qq' (mm + 1) qc' ∧ Sr w w5 q.mc w.heap.size (cnt es) D (fun z => left z && !z.sameKey (kl x)) cnt1 (mm + 1) qc' qq' (l ++ [x])) := fun v' w5 o5 g5 => S.out.step (Nat.le_refl _) hmc hlk hat hrg1 hlt hg1 o5 g5
      have o1 : Own w1 w.heap.size qq mm qc l := S.out.own1 hg1
      have hmm2 : mm ≤ 1000 := by omega
      have HB : w.heap.size ≤ w1.heap.size := K1.size
      clear hkey hlk hv hat hg1 hs1 ex invK invV
      have hen' : (Instr.entry (.pointer (some ⟨w.heap.size, 0, none⟩))).run Try.prog w1 = .ok (.tuple #[.string x, ptr c]) w1 := hen
      have oa : Own (w1.alloc (.cells #[.string x] 9)) w.heap.size qq mm qc l := o1.kept ((Kept.refl w1).alloc _)
      have HBa : w.heap.size ≤ (w1.alloc (.cells #[.string x] 9)).heap.size := Nat.le_trans HB ((Kept.refl w1).alloc _).size
      clear hen
      go_wp2_with (at_builtin; refine wpList_append_own _ rfl _ _ 24 rfl w.heap.size 9 i0 _ 1 16 Try.underlying24 hi0 hz0 hz1 hz2 rfl (by decide) (.slice qq mm qc) mm (sc l) rfl oa.out ⟨w1.heap.size, 0, none⟩ 1 1 [.string x] rfl rfl (one_cellA w1 _ _) (one_str x) (by unfold maxLen; omega) (by omega) HBa ?_; intro v' w5 o5 g5 _; obtain ⟨qq', qc', rfl, S5⟩ := HN.out v' w5 o5 g5; have SS : Hid _ := S5; clear o5 g5 HN)
      go_roundw
      case rel => exact ⟨_, _, _, _, _, _, rfl, SS⟩
      case measure => rw [SS.out.rg.left_eq, hrg.left_eq]; exact hlt
end Go.Proofs.Ytbpelhfbgjplbaa.Ca
