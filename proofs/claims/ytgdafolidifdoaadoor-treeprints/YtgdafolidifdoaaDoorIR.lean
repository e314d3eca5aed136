/- The walk of the printer's decls. Conditions: names are short; few declarations; what is written is within a bound. -/
import Derived.Test.YtgdafolidifdoaaDoorIQ
namespace Go.Proofs.YtgdafolidifdoaaDoor.Tp
open Go.ChangeShapes Go.WideShapes Go.ChangeAt Go.RowKit

theorem bext {x y : ByteArray} (h : x.data.toList = y.data.toList) : x = y := ByteArray.ext (Array.toList_inj.1 h)
theorem dls_snoc (d : Nat) (word : ByteArray) (x : Dc) : ∀ l : List Dc, dls d word (l ++ [x]) = dls d word l ++ (tb d ++ cat [word, dct x, ⟨#[59]⟩] ++ ⟨#[10]⟩)
  | [] => by
    apply bext
    simp [dls, cat, ByteArray.data_append]
  | y :: r => by
    rw [List.cons_append, dls, dls, dls_snoc d word x r]
    simp only [ByteArray.append_assoc]
theorem cat3 (x y z : ByteArray) : (cat [x, y, z]).size = x.size + y.size + z.size := by
  simp only [cat, ByteArray.size_append, lsz, List.length_nil]; omega
/-- A line of a row that was just made. -/
theorem line_new {w0 W : World} {b : Nat} {a : ByteArray} (h : Bl w0 b a W) (d : Nat) (hd : d ≤ 10) (l : List ByteArray) (cs : Array Value) (hcs : cs.toList = sc l) (n : Nat) (hn : l.length = n) (hn9 : n ≤ 9) (ha : a.size ≤ 500000000000) (hc : (cat l).size ≤ 1000000) :
    Calls Tryd.prog 30 #[.pointer (some ⟨b, 0, none⟩), .int .i64 (d : Nat), .slice (some ⟨W.heap.size, 0, none⟩) n n] (W.alloc (.cells cs 9)) fun e w' => e = .returned (.tuple #[]) ∧ Bl w0 b (a ++ (tb d ++ cat l ++ ⟨#[10]⟩)) w' ∧ Ky W w' :=
  (line_walk (h.kept ((Kept.refl W).alloc _)) d hd (alloc_at W _) hcs hn hn9 ha hc).mono fun _ _ ⟨h1, h2, h3⟩ => ⟨h1, h2, ((Kept.refl W).alloc _).ky.trans h3⟩

set_option maxRecDepth 100000 in
set_option maxHeartbeats 2000000 in
theorem decls_walk {w0 w : World} {b : Nat} {acc : ByteArray} (h : Bl w0 b acc w) (d : Nat) (hd : d ≤ 10) (word : ByteArray) (hw : word.size ≤ 10) {p : Option Addr} {n c : Nat} {ds : List Dc} (hD : Dl w p n c ds) (ok : Dok ds) (ha : acc.size ≤ 400000000000) :
    Calls Tryd.prog 20 #[.pointer (some ⟨b, 0, none⟩), .int .i64 (d : Nat), .string word, .slice p n c] w fun e w' => e = .returned (.tuple #[]) ∧ Bl w0 b (acc ++ dls d word ds) w' ∧ Ky w w' := by
  have hn4 : n ≤ 4 := by rw [← hD.len]; exact ok.1
  have hc9 : c ≤ 9223372036854775807 := by have := hD.cap; unfold maxLen at this; omega
  have HD : Hid (Dl w p n c ds) := hD
  have HN : Hid (∀ x ∈ ds, x.n.size ≤ 6) := ok.2
  have HB : Hid (Bl w0 b acc w) := h
  have HSZ : Hid (∀ i, (acc ++ dls d word (ds.take i)).size ≤ 500000000000) := fun i => by
    have := dls_size d word hd hw (ds.take i) (fun x hx => ok.2 x (List.mem_of_mem_take hx))
    rw [List.length_take] at this
    have h4 := ok.1
    rw [ByteArray.size_append]
    omega
  have hle := hD.le
  clear hD ok h
  go_enter Tryd.func20, Tryd.ntmps20
  go_wp2
  go_loopg [12] n (fun g' iv wx => ∃ i : Nat, i + g' = n ∧ iv = .int .i64 (i : Nat) ∧ Bl w0 b (acc ++ dls d word (ds.take i)) wx ∧ Ky w wx)
  case atStart => exact ⟨0, by omega, rfl, by rw [show acc ++ dls d word (ds.take 0) = acc from app_em acc]; exact HB.out, Ky.refl w⟩
  case round =>
    obtain ⟨i, hg, rfl, hb, hk⟩ := hrel
    cases gk with
    | zero =>
      obtain rfl : i = n := by omega
      have hi2 : ¬ (i : Int) < (i : Nat) := by omega
      have HE : Hid (Bl w0 b (acc ++ dls d word ds) wr) := by rwa [← HD.out.len, List.take_length] at hb
      have HK : Hid (Ky w wr) := hk
      clear hg hb hk
      go_wp2
      go_end0
      exact ⟨rfl, HE.out, HK.out⟩
    | succ g' =>
      have hlt : (i : Int) < (n : Nat) := by omega
      have hltn : i < n := by omega
      have hi4 : i < 4 := by omega
      have HG : Hid (i + g' + 1 = n) := by show i + g' + 1 = n; omega
      obtain ⟨x, hx⟩ : ∃ x, ds[i]? = some x := ⟨_, List.getElem?_eq_getElem (by rw [HD.out.len]; exact hltn)⟩
      obtain ⟨rb, ro, rfl, c0, c1, c2⟩ := (HD.out.stay hk).at hx
      have hxn := HN.out x (List.mem_of_getElem? hx)
      have f := decl_walk x hxn (wr.alloc (.cells #[.string x.n, .int .i64 x.t, .int .i64 x.pos] 44))
      have hts := dct_size hxn
      have HBi : Hid (Bl w0 b (acc ++ dls d word (ds.take i)) wr) := hb
      have HKi : Hid (Ky w wr) := hk
      have HT : Hid (dls d word (ds.take (i + 1)) = dls d word (ds.take i) ++ (tb d ++ cat [word, dct x, ⟨#[59]⟩] ++ ⟨#[10]⟩)) := by
        show _ = _
        rw [List.take_add_one, hx]
        exact dls_snoc d word x _
      have hsz := HSZ.out i
      clear hg hb hk hx hxn
      generalize dct x = tx at *
      obtain ⟨dn, dt, dp⟩ := x
      dsimp only at *
      have HC3 : Hid ((cat [word, tx, ⟨#[59]⟩]).size ≤ 1000000) := by show _ ≤ _; rw [cat3]; simp only [lsz, List.length_cons, List.length_nil]; omega
      go_wp2_with (first
        | (go_at_call 31; (with_reducible refine f.mono ?_); clear f; rintro e w1 ⟨rfl, hk1⟩
           have KK : Hid (Kept wr w1) := ((Kept.refl wr).alloc _).trans hk1
           clear hk1)
        | (go_at_call 30; (with_reducible refine (line_new (HBi.out.kept KK.out) d hd [word, tx, ⟨#[59]⟩] #[.string word, .string tx, .string ⟨#[59]⟩] rfl 3 rfl (by decide) hsz HC3.out).mono ?_); rintro e w2 ⟨rfl, b2, k2⟩
           have HB2 : Hid _ := b2
           have HK2 : Hid (Ky wr w2) := KK.out.ky.trans k2
           clear b2 k2))
      go_roundg g'
      case measure => omega
      case rel => exact ⟨i + 1, by have := HG.out; omega, by go_num, by rw [HT.out, ← ByteArray.append_assoc]; exact HB2.out, HKi.out.trans HK2.out⟩
end Go.Proofs.YtgdafolidifdoaaDoor.Tp
