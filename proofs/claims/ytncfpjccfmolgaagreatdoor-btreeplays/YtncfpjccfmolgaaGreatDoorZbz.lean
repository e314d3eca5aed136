/- Joined: VI. What is proved of the functions beneath BtreeEnds,BtreeFull,BtreeShape,BtreePlays. Conditions: those that each row names. -/
import Derived.Test.YtncfpjccfmolgaaGreatDoorZbv
namespace Go.Proofs.YtncfpjccfmolgaaGreatDoor.T
open Go.ChangeShapes Go.WideShapes Go.ChangeAt Go.RowKit
open B (Pm En upd Tree got Ord)
open N (Kept Own blk Vl C3)
structure Sy (k:ByteArray) (l:List En) (xd:ByteArray) (xp xl:Int) (xb:Bool):Prop where
 sd:xd=(had k l).d
 sp:xp=(had k l).p
 sn:xl=(had k l).l
 sb:xb=(got k l).isSome
theorem own_oth {W W':World} {B:Nat} {e:TypeId} {sz:Nat} {p:Option Addr} {n c ob:Nat} {cs:List Value} {cc:Array Value} {ty:TypeId} {fr:Nat×Nat} (k:Own W B e sz p n c cs) (hb:W.heap[ob]? = some (.cells cc ty fr)) (ht:ty≠e) (ho:∀ k,k≠ob→W'.heap[k]? = W.heap[k]?):Own W' B e sz p n c cs:=by
 refine⟨k.out.1,k.out.2.imp id ?_⟩
 rintro⟨g,cap,cur,a,b,hg,r⟩
 refine⟨g,cap,cur,a,b,(ho g ?_).trans hg,r⟩
 rintro rfl
 rw[hb]at hg
 injection hg with hg
 injection hg with _ hg _
 exact ht hg
theorem Fs.store {w W:World} {t p m:Nat} {kp:Option Addr} {n kc:Nat} {l' l:List En} {r:Int} (h:Fs w W t p m kp n kc l' l r) {ob:Nat} {v0 v1 v2:Value} (hb:C3 W ob 33 v0 v1 v2) (hob:w.heap.size≤ob) (a b c:Value) :
  Fs w (((W.setCell ⟨ob,0,none⟩ a).setCell ⟨ob,1,none⟩ b).setCell ⟨ob,2,none⟩ c) t p m kp n kc l' l r:=by
 obtain⟨M,V⟩:=h.vw
 have oth:∀ k,k≠ob→(((W.setCell ⟨ob,0,none⟩ a).setCell ⟨ob,1,none⟩ b).setCell ⟨ob,2,none⟩ c).heap[k]? = W.heap[k]?:=fun k hk=>oth3 W hk _ _ _
 have hbl:Below w.heap.size W (((W.setCell ⟨ob,0,none⟩ a).setCell ⟨ob,1,none⟩ b).setCell ⟨ob,2,none⟩ c):=(((Below.refl _ W).setCell hob a).setCell hob b).setCell hob c
 exact⟨⟨M,tat_oth V.tat hb.out (by decide) oth,V.pv.ap (Ap.other hb.out (by decide) (fun k o hk hne=>(oth k hne).trans hk)),V.tr,V.bt,Nat.le_trans V.bw hbl.size,V.b0,G.lds_on V.lds hbl V.b0⟩,own_oth h.own hb.out (by decide) oth,h.ord,h.vals,h.low.trans hbl⟩
theorem c3_tx {B t p:Nat} {W W':World} {root:Int} {ob:Nat} {v0 v1 v2:Value} (hb:C3 W ob 33 v0 v1 v2) (x:Tx B t W W') (hT:TAt W t p root):C3 W' ob 33 v0 v1 v2:=by
 refine⟨x.rows _ _ _ _ hb.out calm33 ?_⟩
 rintro rfl
 have h2:=hT.out
 rw[hb.out]at h2
 injection h2 with h2
 injection h2 with _ h2 _
 exact absurd h2 (by decide)
theorem Fs.put {w W:World} {t p:Nat} {kp:Option Addr} {n kc:Nat} {l:List En} {r:Int} (h:Fs w W t p 500 kp n kc l l r) (hn:n<120) (k d:ByteArray) (hk:k.size≤64) (hd:d.size≤48) {ob:Nat} {v0 v1 v2:Value} (hb:C3 W ob 33 v0 v1 v2) :
  Calls Tryz.prog 15 #[.pointer (some ⟨t,0,none⟩),.string k,.agg #[.string d,.int .i64 (-1),.int .i64 0]] W fun e w'=>∃ xd xp xl xb r',e=.returned (.tuple #[.agg #[.string xd,.int .i64 xp,.int .i64 xl],.bool xb,.int .i64 0])∧Sy k l xd xp xl xb∧Fs w w' t p 500 kp n kc (upd k [(k,⟨d,-1,0⟩)] l) l r'∧C3 w' ob 33 v0 v1 v2:=by
 obtain⟨M,V⟩:=h.vw
 have hl:=h.len
 refine (V.put k d hk hd (by split <;> omega)).mono ?_
 rintro e w' ⟨rfl,⟨M',r',V'⟩,x⟩
 exact⟨_,_,_,_,r',rfl,⟨rfl,rfl,rfl,rfl⟩,⟨⟨M',V'⟩,own_tx h.own x V.tat calm42 (by decide),h.ord,h.vals,h.low.trans x.below⟩,c3_tx hb x V.tat⟩
theorem Fs.delete {w W:World} {t p:Nat} {kp:Option Addr} {n kc:Nat} {l:List En} {r:Int} (h:Fs w W t p 500 kp n kc l l r) (hn:n<120) (k:ByteArray) (hk:k.size≤64) {ob:Nat} {v0 v1 v2:Value} (hb:C3 W ob 33 v0 v1 v2) :
  Calls Tryz.prog 11 #[.pointer (some ⟨t,0,none⟩),.string k] W fun e w'=>∃ xd xp xl xb r',e=.returned (.tuple #[.agg #[.string xd,.int .i64 xp,.int .i64 xl],.bool xb,.int .i64 0])∧Sy k l xd xp xl xb∧Fs w w' t p 500 kp n kc (upd k [] l) l r'∧C3 w' ob 33 v0 v1 v2:=by
 obtain⟨M,V⟩:=h.vw
 have hl:=h.len
 refine (V.delete k hk (by split <;> omega)).mono ?_
 rintro e w' ⟨rfl,⟨M',r',V'⟩,x⟩
 exact⟨_,_,_,_,r',rfl,⟨rfl,rfl,rfl,rfl⟩,⟨⟨M',V'⟩,own_tx h.own x V.tat calm42 (by decide),h.ord,h.vals,h.low.trans x.below⟩,c3_tx hb x V.tat⟩
theorem Fs.get {w W:World} {t p:Nat} {kp:Option Addr} {n kc:Nat} {l:List En} {r:Int} (h:Fs w W t p 500 kp n kc l l r) (k:ByteArray) {ob:Nat} {v0 v1 v2:Value} (hb:C3 W ob 33 v0 v1 v2) :
  Calls Tryz.prog 14 #[.pointer (some ⟨t,0,none⟩),.string k] W fun e w'=>∃ xd xp xl xb,e=.returned (.tuple #[.agg #[.string xd,.int .i64 xp,.int .i64 xl],.bool xb,.int .i64 0])∧Sy k l xd xp xl xb∧Fs w w' t p 500 kp n kc l l r∧C3 w' ob 33 v0 v1 v2:=by
 obtain⟨M,V⟩:=h.vw
 refine (V.get k).mono ?_
 rintro e w' ⟨rfl,kk⟩
 exact⟨_,_,_,_,rfl,⟨rfl,rfl,rfl,rfl⟩,h.kept kk,hb.kept kk⟩
theorem Fs.gets {w W:World} {t p:Nat} {kp:Option Addr} {n kc:Nat} {l:List En} {r:Int} (h:Fs w W t p 500 kp n kc l l r) {j:Nat} {x:En} (hx:l[j]? = some x) :
  Calls Tryz.prog 14 #[.pointer (some ⟨t,0,none⟩),.string x.1] W fun e w'=>∃ xp xl,e=.returned (.tuple #[.agg #[.string x.2.d,.int .i64 xp,.int .i64 xl],.bool true,.int .i64 0])∧Fs w w' t p 500 kp n kc l l r:=by
 obtain⟨M,V⟩:=h.vw
 refine (V.get x.1).mono ?_
 rintro e w' ⟨rfl,kk⟩
 have hg:got x.1 l=some x.2:=got_at hx rfl fun e he e1=>by
  obtain⟨i,hi⟩:=List.getElem?_of_mem he
  rw[List.getElem?_take]at hi
  split at hi
  ·rename_i hij
   obtain⟨a1,a2⟩:=List.getElem?_eq_some_iff.1 hx
   obtain⟨b1,b2⟩:=List.getElem?_eq_some_iff.1 hi
   have:=List.pairwise_iff_getElem.1 h.ord i j b1 a1 hij
   rw[a2,b2,e1,N.sl_irrefl]at this
   cases this
  ·cases hi
 unfold had
 rw[hg]
 exact⟨_,_,rfl,h.kept kk⟩
set_option maxRecDepth 100000 in
theorem Fs.has {w W:World} {t p m:Nat} {kp:Option Addr} {n kc:Nat} {l' l:List En} {r:Int} (h:Fs w W t p m kp n kc l' l r) (hn:n≤1000) {k xd:ByteArray} {xp xl:Int} {xb:Bool} (hs:Sy k l xd xp xl xb) :
  Calls Tryz.prog 12 #[.slice kp n kc,.string k,.agg #[.string xd,.int .i64 xp,.int .i64 xl],.bool xb] W fun e w'=>e=.returned (.bool true)∧Fs w w' t p m kp n kc l' l r:=by
 obtain⟨rfl,rfl,rfl,rfl⟩:=hs
 unfold had
 refine (has_walk h.own.rw hn h.vals k).mono ?_
 rintro e w' ⟨rfl,kk⟩
 exact⟨rfl,h.kept kk⟩
theorem Fs.root {w W:World} {t p m:Nat} {kp:Option Addr} {n kc:Nat} {l:List En} {r:Int} (h:Fs w W t p m kp n kc l l r):(r=-1∧n=0)∨(0≤r∧0<n):=by
 obtain⟨M,V⟩:=h.vw
 have hl:=h.len
 rcases V.tr with⟨a,rfl,_⟩|⟨d,n,rfl,hT,e⟩
 ·exact .inl ⟨a,by simpa using hl.symm⟩
 ·have h1:=hT.many.1
  rw[e]at h1
  have h2:0<2 ^ d:=Nat.two_pow_pos d
  exact .inr ⟨by omega,by omega⟩
end Go.Proofs.YtncfpjccfmolgaaGreatDoor.T