/- While acts are played over a cache: what each call keeps. No condition but those that each row names. -/
import Derived.Test.YtbpelhfbgjplbaaJZd
namespace Go.Proofs.Ytbpelhfbgjplbaa.Ca
open Go.ChangeShapes Go.WideShapes Go.ChangeAt Go.RowKit Go.Deep
open N (Kept)
open Q (kept_cell Kv Vn Km seq_iff got got_at got_no take_more)
variable {E : Nat → Prop} {X : List En}

/-- While acts are played: what the cache says, G, and the list. -/
structure Px (w wx : World) (P m kb i : Nat) (G : ByteArray → Option ByteArray) (p : Option Addr) (nn cc : Nat) (l : List Pr) : Prop where
  out : ∃ q es n, n ≤ 17 * i ∧ Us NE wx w.heap.size P m kb n q es G
  row : Pw wx w.heap.size p nn cc l
  ord : Ord l
  few : nn ≤ i
  low : Kept w wx
theorem Px.kept {w wx w' : World} {P m kb i : Nat} {G : ByteArray → Option ByteArray} {p : Option Addr} {nn cc : Nat} {l : List Pr} (h : Px w wx P m kb i G p nn cc l) (k : Kept wx w') : Px w w' P m kb i G p nn cc l := by
  obtain ⟨q, es, n, h1, h2⟩ := h.out
  exact ⟨⟨q, es, n, h1, h2.kept k⟩, h.row.kept k, h.ord, h.few, h.low.trans k⟩
theorem Px.vc {w wx w' : World} {P m kb i n' : Nat} {G G' : ByteArray → Option ByteArray} {p : Option Addr} {nn cc : Nat} {l : List Pr} {q' : Cc} {es' : List En} (h : Px w wx P m kb i G p nn cc l) (v : Vc NE w.heap.size wx w') (hn : n' ≤ 17 * (i + 1)) (u : Us NE w' w.heap.size P m kb n' q' es' G') : Px w w' P m kb (i + 1) G' p nn cc l :=
  ⟨⟨q', es', n', hn, u⟩, h.row.vc v, h.ord, by have := h.few; omega, (Vc.kept (E := NE) ((Vc.of h.low (Nat.le_refl _)).trans v))⟩
theorem Px.held {w wx : World} {P m kb i : Nat} {G : ByteArray → Option ByteArray} {p : Option Addr} {nn cc : Nat} {l : List Pr} (h : Px w wx P m kb i G p nn cc l) : ∃ hn : Nat, hn ≤ m ∧ Calls Try.prog 16 #[.pointer (some ⟨P, 0, none⟩)] wx fun r w' => r = .returned (.int .i64 (hn : Nat)) ∧ w' = wx := by
  obtain ⟨q, es, n, h1, h2⟩ := h.out
  exact ⟨es.length, h2.len, h2.held⟩
theorem Px.get {w wx : World} {P m kb i : Nat} {G : ByteArray → Option ByteArray} {p : Option Addr} {nn cc : Nat} {l : List Pr} (h : Px w wx P m kb i G p nn cc l) (hi : i < 80) (k : ByteArray) (hk : k.size ≤ 64) :
    Calls Try.prog 9 #[.pointer (some ⟨P, 0, none⟩), .string k] wx fun r w' => r = .returned (.tuple #[.string ((G k).getD ⟨#[]⟩), .bool (G k).isSome, .int .i64 0]) ∧ Px w w' P m kb (i + 1) G p nn cc l := by
  obtain ⟨q, es, n, h1, h2⟩ := h.out
  refine (get_walk h2 k hk).mono ?_
  rintro r w' ⟨rfl, x, es1, q', fd⟩
  obtain ⟨n', hn', u⟩ := fd.us h2 (by omega)
  exact ⟨rfl, h.vc fd.vc (by omega) u⟩
theorem Px.delete {w wx : World} {P m kb i : Nat} {G : ByteArray → Option ByteArray} {p : Option Addr} {nn cc : Nat} {l : List Pr} (h : Px w wx P m kb i G p nn cc l) (hi : i < 80) (k : ByteArray) (hk : k.size ≤ 64) :
    Calls Try.prog 10 #[.pointer (some ⟨P, 0, none⟩), .string k] wx fun r w' => r = .returned (.tuple #[.bool (G k).isSome, .int .i64 0]) ∧ Px w w' P m kb (i + 1) (Q.del G k) p nn cc l := by
  obtain ⟨q, es, n, h1, h2⟩ := h.out
  refine (del_walk h2 k hk).mono ?_
  rintro r w' ⟨rfl, af⟩
  obtain ⟨q', es', n', hn', u, _⟩ := af.us h2 (by omega)
  exact ⟨rfl, h.vc af.vc (by omega) u⟩
theorem Px.put {w wx : World} {P m kb i : Nat} {G : ByteArray → Option ByteArray} {p : Option Addr} {nn cc : Nat} {l : List Pr} (h : Px w wx P m kb i G p nn cc l) (hi : i < 80) (k t : ByteArray) (hk : k.size ≤ 64) (ht : t.size ≤ 65536) :
    Calls Try.prog 14 #[.pointer (some ⟨P, 0, none⟩), .string k, .string t] wx fun r w' => r = .returned (.int .i64 0) ∧ Px w w' P m kb (i + 1) (Q.put G k t) p nn cc l := by
  obtain ⟨q, es, n, h1, h2⟩ := h.out
  refine (put_walk h2 k t hk ht).mono ?_
  rintro r w' ⟨rfl, af⟩
  obtain ⟨q', es', n', hn', u, _⟩ := af.us h2 (by omega)
  exact ⟨rfl, h.vc af.vc (by omega) u⟩
theorem Px.sync {w wx : World} {P m kb i : Nat} {G : ByteArray → Option ByteArray} {p : Option Addr} {nn cc : Nat} {l : List Pr} (h : Px w wx P m kb i G p nn cc l) (hi : i ≤ 80) (hm : m ≤ 15) :
    Calls Try.prog 12 #[.pointer (some ⟨P, 0, none⟩)] wx fun r w' => r = .returned (.int .i64 0) ∧ Px w w' P m kb (i + 1) G p nn cc l ∧ ∃ n', Kv NE w' w.heap.size kb n' G := by
  obtain ⟨q, es, n, h1, h2⟩ := h.out
  refine (sync_walk h2).mono ?_
  rintro r w' ⟨rfl, sn⟩
  obtain ⟨q', es', n', hn', ⟨e1, e2⟩, hl, M, iv⟩ := sn.out
  refine ⟨rfl, h.vc sn.vc (n' := n') (q' := q') (es' := es') (by omega) ⟨⟨_, M, iv⟩, e1, e2, h2.one, hl, h2.most, by omega⟩, n', ?_⟩
  rw [← e2]; exact M.kv
theorem Px.below {w wx : World} {P m kb i : Nat} {p : Option Addr} {nn cc : Nat} {l : List Pr} (h : Px w wx P m kb i (fun k => got k l) p nn cc l) (hi : i ≤ 81) {n' : Nat} (kv : Kv NE wx w.heap.size kb n' (fun k => got k l)) :
    Calls Try.prog 13 #[.pointer (some ⟨kb, 0, none⟩), .slice p nn cc] wx fun e w' => e = .returned (.bool true) ∧ w' = wx :=
  below_walk kv h.row.pl h.ord rfl (by have := h.few; omega)
theorem Px.ask {w wx : World} {P m kb i : Nat} {G : ByteArray → Option ByteArray} {p : Option Addr} {nn cc : Nat} {l : List Pr} (h : Px w wx P m kb i G p nn cc l) (hi : i ≤ 81) (k : ByteArray) :
    Calls Try.prog 8 #[.slice p nn cc, .string k] wx fun e w' => e = .returned (.tuple #[.string ((got k l).getD ⟨#[]⟩), .bool (got k l).isSome]) ∧ w' = wx :=
  ref_get h.row.pl (by have := h.few; omega) k
theorem Px.rdel {w wx : World} {P m kb i : Nat} {p : Option Addr} {nn cc : Nat} {l : List Pr} {k : ByteArray} (h : Px w wx P m kb (i + 1) (Q.del (fun k => got k l) k) p nn cc l) (hi : i < 80) (hn : nn ≤ i) :
    Calls Try.prog 11 #[.slice p nn cc, .string k] wx fun e w' => ∃ p' n' c' l', e = .returned (.slice p' n' c') ∧ Px w w' P m kb (i + 1) (fun k => got k l') p' n' c' l' := by
  refine (ref_delete h.row.pl (by omega) k).mono ?_
  rintro r w' ⟨p', n', c', rfl, R, K⟩
  obtain ⟨q, es, n, h1, h2⟩ := h.out
  rw [← got_wo] at h2
  refine ⟨p', n', c', wo k l, rfl, ⟨q, es, n, h1, h2.kept K⟩, R.mono h.low.size, wo_ord h.ord k, ?_, h.low.trans K⟩
  have := R.len
  have := h.row.len
  have := wo_len k l
  omega
theorem Px.rput {w wx : World} {P m kb i : Nat} {p : Option Addr} {nn cc : Nat} {l : List Pr} {k v : ByteArray} (h : Px w wx P m kb (i + 1) (Q.put (fun k => got k l) k v) p nn cc l) (hi : i < 80) (hn : nn ≤ i) :
    Calls Try.prog 15 #[.slice p nn cc, .string k, .string v] wx fun e w' => ∃ p' n' c' l', e = .returned (.slice p' n' c') ∧ Px w w' P m kb (i + 1) (fun k => got k l') p' n' c' l' := by
  refine (ref_put h.row.pl h.ord (by omega) k v).mono ?_
  rintro r w' ⟨p', n', c', rfl, R, K⟩
  obtain ⟨q, es, n, h1, h2⟩ := h.out
  rw [← got_upd] at h2
  refine ⟨p', n', c', ins k [(k, v)] l, rfl, ⟨q, es, n, h1, h2.kept K⟩, R.mono h.low.size, ins_ord h.ord k v, ?_, h.low.trans K⟩
  have := R.len
  have := h.row.len
  have := ins_len (k := k) (v := v) l
  omega
theorem Px.new {w w1 w2 : World} {P m kb : Nat} {q : Cc} {p : Option Addr} {c : Nat} (u : Us NE w1 w.heap.size P m kb 0 q [] (fun _ => none)) (k1 : Kept w w1) (k2 : Kept w1 w2) (R : Pw w2 w.heap.size p 0 c []) : Px w w2 P m kb 0 (fun k => got k []) p 0 c [] :=
  ⟨⟨q, [], 0, Nat.le_refl _, (u.kept k2)⟩, R, List.Pairwise.nil, Nat.le_refl _, k1.trans k2⟩
theorem pw_made {w W : World} (h : w.heap.size ≤ W.heap.size) : Pw (W.alloc (.cells #[] 61)) w.heap.size (some ⟨W.heap.size, 0, none⟩) 0 0 [] := ⟨World.ownsRow_made W #[] 0 h (Nat.zero_le _) rfl⟩
theorem act_cells (w : World) (what : Int) (k v : ByteArray) : (w.alloc (.cells #[.int .i64 what, .string k, .string v] 32)).cell? ⟨w.heap.size, 0, none⟩ = some (.int .i64 what) ∧ (w.alloc (.cells #[.int .i64 what, .string k, .string v] 32)).cell? ⟨w.heap.size, 1, none⟩ = some (.string k) ∧ (w.alloc (.cells #[.int .i64 what, .string k, .string v] 32)).cell? ⟨w.heap.size, 2, none⟩ = some (.string v) := by
  have h := heap_alloc_new w (.cells #[.int .i64 what, .string k, .string v] 32)
  refine ⟨?_, ?_, ?_⟩ <;> rw [cell_of_row _ _ _ _ _ _ h] <;> rfl
end Go.Proofs.Ytbpelhfbgjplbaa.Ca
