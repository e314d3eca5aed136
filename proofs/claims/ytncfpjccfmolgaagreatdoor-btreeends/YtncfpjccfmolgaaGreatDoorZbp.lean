/- Joined: UF. What is proved of the functions beneath BtreeEnds,BtreeFull,BtreeShape,BtreePlays. Conditions: those that each row names. -/
import Derived.Test.YtncfpjccfmolgaaGreatDoorZbo
namespace Go.Proofs.YtncfpjccfmolgaaGreatDoor.T
open Go.ChangeShapes Go.WideShapes Go.ChangeAt Go.RowKit
open B (Pm En upd Tree got)
open N (Kept Own blk kcl ob kcl_append)
structure Eo (w W:World) (t p:Nat) (kp:Option Addr) (n kc:Nat) (ks:List ByteArray) (q:Nat) (some_:List ByteArray):Prop where
 vw:∃ r M l,Vw w.heap.size W t p 500 r M l∧l.length≤q∧∀ e∈l,e.1∈some_
 own:Own W w.heap.size 9 1 kp n kc (kcl ks)
 len:ks.length=n
 sm:∀ k∈ks,k.size≤64
 low:Below w.heap.size w W
theorem Eo.kept {w W W':World} {t p:Nat} {kp:Option Addr} {n kc:Nat} {ks:List ByteArray} {q:Nat} {so:List ByteArray} (E:Eo w W t p kp n kc ks q so) (k:Kept W W'):Eo w W' t p kp n kc ks q so:=by
 obtain⟨r,M,l,V,h⟩:=E.vw
 exact⟨⟨r,M,l,V.kept k,h⟩,E.own.kept k,E.len,E.sm,E.low.trans (k.out.mono V.bw)⟩
theorem Eo.start {w W:World} {t p:Nat} (k:Kept w W) (V:Vw w.heap.size W t p 500 (-1) (fun _=>none) []):Eo w (W.alloc (.cells #[] 9)) t p (some ⟨W.heap.size,0,none⟩) 0 0 [] 0 []:=by
 have kk:=(Kept.refl W).alloc (.cells #[] 9)
 refine⟨⟨_,_,_,V.kept kk,Nat.le_refl _,fun e h=>by cases h⟩,⟨rfl,.inr ⟨W.heap.size,0,#[],rfl,k.size,heap_alloc_new _ _,Nat.le_refl _,Nat.zero_le _,rfl,rfl⟩⟩,rfl,(fun k h=>by cases h),(k.trans kk).out⟩
theorem Eo.more {w W W':World} {t p:Nat} {kp:Option Addr} {kq:Option Addr} {n kc c:Nat} {ks:List ByteArray} {q:Nat} {s:ByteArray} (E:Eo w W t p kp n kc ks q ks) (hs:s.size≤64) (ho:W'.ownsRow w.heap.size 9 1 (.slice kq (n+1) c) (n+1) (kcl ks++[.string s])) (hg:W.grownBy W' (Value.slice kp n kc).ownBlock) :
  Eo w W' t p kq (n+1) c (ks++[s]) q (ks++[s]):=by
 rw[ob]at hg
 obtain⟨r,M,l,V,h,hm⟩:=E.vw
 obtain⟨V',b⟩:=V.grown E.own (Nat.le_refl _) (by decide) (by decide) hg
 refine⟨⟨r,M,l,V',h,fun e he=>List.mem_append_left _ (hm e he)⟩,⟨by rw[kcl_append];exact ho⟩,by simp[E.len],?_,E.low.trans b⟩
 intro k hk
 rcases List.mem_append.1 hk with hk | hk
 ·exact E.sm k hk
 ·simp at hk;subst hk;exact hs
theorem Eo.put {w W:World} {t p:Nat} {kp:Option Addr} {n kc:Nat} {ks:List ByteArray} {q:Nat} {k:ByteArray} (E:Eo w W t p kp n kc ks q ks) (hk:k∈ks) (hq:q<80) :
  Calls Tryz.prog 15 #[.pointer (some ⟨t,0,none⟩),.string k,.agg #[.string ⟨#[118]⟩,.int .i64 (-1),.int .i64 0]] W fun e w'=>∃ d a b c,e=.returned (.tuple #[.agg #[.string d,.int .i64 a,.int .i64 b],.bool c,.int .i64 0])∧Eo w w' t p kp n kc ks (q+1) ks:=by
 obtain⟨r,M,l,V,h,hm⟩:=E.vw
 refine (V.put k ⟨#[118]⟩ (E.sm k hk) (by decide) (by split <;> omega)).mono ?_
 rintro e w' ⟨rfl,⟨M',r',V'⟩,x⟩
 refine⟨_,_,_,_,rfl,⟨r',M',_,V',?_,?_⟩,own_tx E.own x V.tat calm9 (by decide),E.len,E.sm,E.low.trans x.below⟩
 ·have:=upd_length k [(k,⟨⟨#[118]⟩,-1,0⟩)] l
  simp only[List.length_cons,List.length_nil]at this
  omega
 ·intro e he
  rcases mem_upd he with h | h
  ·simp at h;subst h;exact hk
  ·exact hm e h.1
theorem Eo.delete {w W:World} {t p:Nat} {kp:Option Addr} {n kc:Nat} {ks:List ByteArray} {q:Nat} {k:ByteArray} {so:List ByteArray} (E:Eo w W t p kp n kc ks q (k :: so)) (hk:k.size≤64) (hq:q≤80) :
  Calls Tryz.prog 11 #[.pointer (some ⟨t,0,none⟩),.string k] W fun e w'=>∃ d a b c,e=.returned (.tuple #[.agg #[.string d,.int .i64 a,.int .i64 b],.bool c,.int .i64 0])∧Eo w w' t p kp n kc ks q so:=by
 obtain⟨r,M,l,V,h,hm⟩:=E.vw
 refine (V.delete k hk (by split <;> omega)).mono ?_
 rintro e w' ⟨rfl,⟨M',r',V'⟩,x⟩
 refine⟨_,_,_,_,rfl,⟨r',M',_,V',?_,?_⟩,own_tx E.own x V.tat calm9 (by decide),E.len,E.sm,E.low.trans x.below⟩
 ·have:=upd_length k [] l
  simp only[List.length_nil]at this
  omega
 ·intro e he
  rcases mem_upd he with h | h
  ·cases h
  ·rcases List.mem_cons.1 (hm e h.1) with h2 | h2
   ·exact absurd h2 h.2
   ·exact h2
theorem tree_nil {M:Pm} {r:Int} (h:Tree M r []):r=-1∧∀ q,M q=none:=by
 rcases h with⟨a,_,b⟩|⟨d,n,_,hT,e⟩
 ·exact⟨a,b⟩
 ·have:=hT.many.1
  rw[e]at this
  have h2:0<2 ^ d:=Nat.two_pow_pos d
  simp at this
theorem Eo.void {w W:World} {t p:Nat} {kp:Option Addr} {n kc:Nat} {ks:List ByteArray} {q:Nat} (E:Eo w W t p kp n kc ks q []):∃ M,Vw w.heap.size W t p 500 (-1) M []∧∀ q,M q=none:=by
 obtain⟨r,M,l,V,h,hm⟩:=E.vw
 obtain rfl:l=[]:=List.eq_nil_iff_forall_not_mem.2 fun e he=>by cases hm e he
 obtain⟨rfl,h2⟩:=tree_nil V.tr
 exact⟨M,V,h2⟩
theorem Eo.last {w W:World} {t p:Nat} {kp:Option Addr} {n kc:Nat} {ks:List ByteArray} {q:Nat} (E:Eo w W t p kp n kc ks q []) :
  Calls Tryz.prog 11 #[.pointer (some ⟨t,0,none⟩),.string ⟨#[97]⟩] W fun e w'=>∃ d a b,e=.returned (.tuple #[.agg #[.string d,.int .i64 a,.int .i64 b],.bool false,.int .i64 0])∧Eo w w' t p kp n kc ks q []:=by
 obtain⟨M,V,h2⟩:=E.void
 refine (V.delete ⟨#[97]⟩ (by decide) (by decide)).mono ?_
 rintro e w' ⟨rfl,⟨M',r',V'⟩,x⟩
 have e0:(got (⟨#[97]⟩:ByteArray) []).isSome=false:=rfl
 rw[e0]
 refine⟨_,_,_,rfl,⟨r',M',_,V',Nat.zero_le _,?_⟩,own_tx E.own x V.tat calm9 (by decide),E.len,E.sm,E.low.trans x.below⟩
 intro e he
 rcases mem_upd he with h | ⟨h,_⟩ <;> cases h
end Go.Proofs.YtncfpjccfmolgaaGreatDoor.T