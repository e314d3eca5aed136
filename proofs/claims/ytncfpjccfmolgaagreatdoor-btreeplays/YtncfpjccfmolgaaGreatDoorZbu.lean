/- Joined: VC. What is proved of the functions beneath BtreeEnds,BtreeFull,BtreeShape,BtreePlays. Conditions: those that each row names. -/
import Derived.Test.YtncfpjccfmolgaaGreatDoorZbt
namespace Go.Proofs.YtncfpjccfmolgaaGreatDoor.T
open Go.ChangeShapes Go.WideShapes Go.ChangeAt Go.RowKit
open B (En upd got Ord)
open N (Kept Own Rw blk ob sl sl_total sl_trans sl_irrefl seq_iff Vl)
set_option maxRecDepth 100000 in
set_option maxHeartbeats 2000000 in
theorem ref_get {w:World} {p:Option Addr} {n c:Nat} {l:List En} (h:Rw w 2 p n c (prs l)) (hn:n≤1000) (k:ByteArray) :
  Calls Tryz.prog 32 #[.slice p n c,.string k] w fun e w'=>e=.returned (.tuple #[.string ((got k l).getD ⟨⟨#[]⟩,-1,0⟩).d,.bool (got k l).isSome])∧w'=w:=by
 obtain⟨hl,b,off,hat,hcl⟩:=Pl.of h
 have HL:Hid (l.length=n):=hl
 have AT:Hid (0<n→p=some ⟨b,off,none⟩):=hat
 have HC:Hid (∀ i e,l[i]? = some e→w.cell? ⟨b,off+i*2,none⟩=some (.string e.1)∧w.cell? ⟨b,off+i*2+1,none⟩=some (.string e.2.d)):=hcl
 clear hl hat hcl h
 go_enter Tryz.func32,Tryz.ntmps32
 go_wp2
 go_loopg [6] n (fun gg iv wx=>∃ i:Nat,iv=.int .i64 (i:Nat)∧Hid (gg=n-i)∧i≤n∧Hid (∀ e∈l.take i,e.1≠k)∧wx=w)
 case atStart=>exact⟨0,rfl,rfl,Nat.zero_le _,(fun e h=>by simp at h),rfl⟩
 case round=>
  obtain⟨i,rfl,hg,hin,HN,rfl⟩:=hrel
  by_cases h1:(i:Int)<(n:Int)
  ·obtain rfl:=AT.out (by omega)
   obtain⟨x,hx⟩:∃ x,l[i]? = some x:=⟨_,List.getElem?_eq_getElem (by rw[HL.out];omega)⟩
   have HX:Hid (l[i]? = some x):=hx
   obtain⟨c0,c1⟩:=HC.out i x hx
   clear hx
   by_cases he:x.1=k
   ·have hgt:got k l=some x.2:=got_at HX.out he HN.out
    have he':(x.1.toList == k.toList)=true:=by rw[seq_iff];simpa using he
    have HGt:Hid (got k l=some x.2):=hgt
    clear he hgt
    go_wp2
    go_ret2
    rw[HGt.out]
    exact⟨rfl,rfl⟩
   ·have HE:Hid (¬ x.1=k):=he
    have he':(x.1.toList == k.toList)=false:=by rw[seq_iff];simpa using he
    clear he
    go_wp2
    go_roundg (n-(i+1))
    case measure=>rw[hg.out];omega
    case rel=>
     refine⟨i+1,by go_num,rfl,by omega,?_,rfl⟩
     intro e he
     rw[take_more HX.out]at he
     rcases List.mem_append.1 he with h | h
     ·exact HN.out e h
     ·simp at h;subst h;exact HE.out
  ·have hgt:got k l=none:=got_no (by have:=HN.out;rwa [List.take_of_length_le (by rw[HL.out];omega)]at this)
   have HGt:Hid (got k l=none):=hgt
   clear hgt
   go_wp2
   go_ret2
   rw[HGt.out]
   exact⟨rfl,rfl⟩
set_option maxRecDepth 100000 in
set_option maxHeartbeats 2000000 in
theorem ref_delete {w:World} {p:Option Addr} {n c:Nat} {l:List En} (h:Rw w 2 p n c (prs l)) (ho:Ord l) (hn:n≤1000) (k:ByteArray) :
  Calls Tryz.prog 13 #[.slice p n c,.string k] w fun e w'=>∃ p' n' c',e=.returned (.slice p' n' c')∧Own w' w.heap.size 42 2 p' n' c' (prs (upd k [] l))∧Kept w w':=by
 rw[upd_del ho]
 obtain⟨i42,hi,hz0,hz1,hz2⟩:=info_parts info42
 obtain⟨hl,b,off,hat,hcl⟩:=Pl.of h
 have HL:Hid (l.length=n):=hl
 have AT:Hid (0<n→p=some ⟨b,off,none⟩):=hat
 have HC:Hid (∀ i e,l[i]? = some e→w.cell? ⟨b,off+i*2,none⟩=some (.string e.1)∧w.cell? ⟨b,off+i*2+1,none⟩=some (.string e.2.d)):=hcl
 have S0:Hid (Own (w.alloc (.cells #[] 42)) w.heap.size 42 2 (some ⟨w.heap.size,0,none⟩) 0 0 (prs [])):=⟨World.ownsRow_made w #[] 0 (Nat.le_refl _) (Nat.zero_le _) rfl⟩
 have K0:Hid (Kept w (w.alloc (.cells #[] 42))):=(Kept.refl w).alloc _
 clear hl ho hat hcl h
 go_enter Tryz.func13,Tryz.ntmps13
 go_wp2
 go_loopg [5,6] n (fun gg ov iv wx=>∃ (i m qc:Nat) (q:Option Addr),ov=.slice q m qc∧iv=.int .i64 (i:Nat)∧Hid (gg=n-i)∧i≤n∧m≤i∧Hid (Own wx w.heap.size 42 2 q m qc (prs ((l.take i).filter fun e=>!decide (e.1=k))))∧Hid (Kept w wx))
 case atStart=>exact⟨0,0,0,_,rfl,rfl,rfl,Nat.zero_le _,Nat.zero_le _,S0,K0⟩
 case round=>
  obtain⟨i,m,qc,q,rfl,rfl,hg,hin,hm,O,K⟩:=hrel
  clear S0 K0
  by_cases h1:(i:Int)<(n:Int)
  ·obtain rfl:=AT.out (by omega)
   obtain⟨x,hx⟩:∃ x,l[i]? = some x:=⟨_,List.getElem?_eq_getElem (by rw[HL.out];omega)⟩
   have HX:Hid (l[i]? = some x):=hx
   obtain⟨c0',c1'⟩:=HC.out i x hx
   have c0:=K.out.cell c0'
   have c1:=K.out.cell c1'
   clear c0' c1' hx
   obtain⟨out,hout⟩:∃ out,out=(l.take i).filter fun e=>!decide (e.1=k):=⟨_,rfl⟩
   rw[← hout]at O
   have HT:Hid ((l.take (i+1)).filter (fun e=>!decide (e.1=k))=out++[x].filter fun e=>!decide (e.1=k)):=by
    show _=_
    rw[take_more HX.out,List.filter_append,hout]
   clear hout
   by_cases he:x.1=k
   ·have HT2:Hid ((l.take (i+1)).filter (fun e=>!decide (e.1=k))=out):=by
     show _=_
     rw[HT.out,List.filter_cons_of_neg (by simp[he])];simp
    have he':(x.1.toList == k.toList)=true:=by rw[seq_iff];simpa using he
    clear he HT
    go_wp2
    go_roundg (n-(i+1))
    case measure=>rw[hg.out];omega
    case rel=>exact⟨i+1,m,_,_,rfl,by go_num,rfl,by omega,by omega,by rw[HT2.out];exact O,K⟩
   ·have HT2:Hid ((l.take (i+1)).filter (fun e=>!decide (e.1=k))=out++[x]):=by
     show _=_
     rw[HT.out,List.filter_cons_of_pos (by simp[he])];simp
    have he':(x.1.toList == k.toList)=false:=by rw[seq_iff];simpa using he
    clear he HT
    go_wp2_with (at_builtin;refine wpList_append_own _ rfl _ _ 27 rfl w.heap.size 42 i42 _ 2 32 Tryz.underlying27 hi hz0 hz1 hz2 rfl (by decide) (.slice q m qc) m (prs out) rfl (O.out.kept ((Kept.refl wr).alloc (.cells #[.string x.1,.string x.2.d] 42))).out ⟨wr.heap.size,0,none⟩ 1 1 [.string x.1,.string x.2.d] rfl rfl (two_cellsA wr _ _ 42) (by intro u hu;simp at hu;rcases hu with rfl | rfl <;> rfl) (by unfold maxLen;omega) (by omega) (Nat.le_trans K.out.size ((Kept.refl wr).alloc (.cells #[.string x.1,.string x.2.d] 42)).size) ?_;intro v' w5 o5 g5 _;obtain⟨kq,c5,rfl⟩:=N.owns_shape o5;have O5:Hid (Own w5 w.heap.size 42 2 kq (m+1) c5 (prs (out++[x]))):=own_pairs o5;have K5:Hid (Kept w w5):=grown_own (K.out.trans ((Kept.refl wr).alloc _)) (O.out.kept ((Kept.refl wr).alloc _)) g5;clear o5 g5 O K)
    go_roundg (n-(i+1))
    case measure=>rw[hg.out];omega
    case rel=>exact⟨i+1,m+1,_,_,rfl,by go_num,rfl,by omega,by omega,by rw[HT2.out];exact O5,K5⟩
  ·go_wp2
   go_ret
   refine⟨q,m,qc,rfl,?_,K.out⟩
   have:=O.out
   rwa [List.take_of_length_le (by rw[HL.out];omega)]at this
set_option maxRecDepth 100000 in
set_option maxHeartbeats 2000000 in
theorem has_walk {w:World} {p:Option Addr} {n c:Nat} {l:List En} (h:Rw w 2 p n c (prs l)) (hn:n≤1000) (hv:∀ e∈l,e.2.p=-1) (k:ByteArray) :
  Calls Tryz.prog 12 #[.slice p n c,.string k,.agg #[.string ((got k l).getD ⟨⟨#[]⟩,-1,0⟩).d,.int .i64 ((got k l).getD ⟨⟨#[]⟩,-1,0⟩).p,.int .i64 ((got k l).getD ⟨⟨#[]⟩,-1,0⟩).l],.bool (got k l).isSome] w fun e w'=>e=.returned (.bool true)∧Kept w w':=by
 have hp:((got k l).getD ⟨⟨#[]⟩,-1,0⟩).p=-1:=by
  cases hgt:got k l with
  | none=>rfl
  | some x=>
   unfold got at hgt
   obtain⟨e,he,rfl⟩:=Option.map_eq_some_iff.1 hgt
   exact hv e (List.mem_of_find?_eq_some he)
 have f:=fun W (kk:Kept w W)=>ref_get (kk.rw h) hn k
 rw[hp]
 generalize hgt:got k l=g at *
 clear hp hgt hv h
 cases g with
 | none=>
  have F:Hid (∀ W,Kept w W→Calls Tryz.prog 32 #[.slice p n c,.string k] W fun e w'=>e=.returned (.tuple #[.string ⟨#[]⟩,.bool false])∧w'=W):=f
  clear f
  simp only[Option.getD_none,Option.isSome_none]
  have K0:Hid (Kept w (w.alloc (.cells #[.string ⟨#[]⟩,.int .i64 (-1),.int .i64 0] 33))):=(Kept.refl w).alloc _
  have g1:=F.out _ K0.out
  clear F
  go_enter Tryz.func12,Tryz.ntmps12
  go_wp2_with (go_at_call 32;(with_reducible refine g1.mono ?_);rintro e w2 ⟨rfl,hw2⟩;rw[hw2];clear hw2 g1)
  go_ret
  exact⟨by first | rfl | simp,K0.out⟩
 | some x=>
  have F:Hid (∀ W,Kept w W→Calls Tryz.prog 32 #[.slice p n c,.string k] W fun e w'=>e=.returned (.tuple #[.string x.d,.bool true])∧w'=W):=f
  clear f
  simp only[Option.getD_some,Option.isSome_some]
  generalize x.d=d at *
  generalize x.l=z at *
  have K0:Hid (Kept w (w.alloc (.cells #[.string d,.int .i64 (-1),.int .i64 z] 33))):=(Kept.refl w).alloc _
  have g1:=F.out _ K0.out
  clear F
  go_enter Tryz.func12,Tryz.ntmps12
  go_wp2_with (go_at_call 32;(with_reducible refine g1.mono ?_);rintro e w2 ⟨rfl,hw2⟩;rw[hw2];clear hw2 g1)
  go_ret
  exact⟨by first | rfl | simp,K0.out⟩
end Go.Proofs.YtncfpjccfmolgaaGreatDoor.T