/- Joined. -/
import Derived.Test.YtafgecaeiodmiaaGreatDoorZbq
import Derived.Deep.QuietTactic
import Derived.BigQuiet
namespace Go.Proofs.YtafgecaeiodmiaaGreatDoor.T
open Go.ChangeShapes Go.WideShapes Go.ChangeAt Go.RowKit
open B (Pm Mk En upd Tree Ord R)
open N (Kept Rw Rx Vl sl)
structure Pq (w:World) (p:Option Addr) (n:Nat) (l:List En):Prop where
 len:l.length=n
 out:∃ b off,(0<n→p=some ⟨b,off,none⟩)∧∀ i e,l[i]? = some e→w.cell? ⟨b,off+i*4,none⟩=some (.string e.1)∧w.cell? ⟨b,off+i*4+1,none⟩=some (.string e.2.d)
theorem Pq.of{w:World}{p:Option Addr}{n c:Nat}{l:List En}(h:Rw w 4 p n c (pcl l)):Pq w p n l:=by
 have hl:l.length=n:=by have:=h.len;rw[pcl_length]at this;omega
 refine⟨hl,?_⟩;rcases h.out with⟨rfl,rfl⟩|⟨b,off,rfl,hc⟩
 ·refine⟨0,0,fun h=>absurd h (by omega),fun i e he=>?_⟩
  rw[List.length_eq_zero_iff.1 hl]at he;simp at he
 ·refine⟨b,off,fun _=>rfl,fun i e he=>⟨?_,?_⟩⟩
  ·exact hc _ _ (by have:=pcl_at l i e he 0 (by omega);simpa[pcl1] using this)
  ·rw[Nat.add_assoc]
   exact hc _ _ (by have:=pcl_at l i e he 1 (by omega);simpa[pcl1] using this)
theorem Pq.kept{w w':World}{p:Option Addr}{n:Nat}{l:List En}(h:Pq w p n l)(k:Kept w w'):Pq w' p n l:=by
 obtain⟨b,off,ha,hc⟩:=h.out;exact⟨h.len,b,off,ha,fun i e he=>⟨k.cell (hc i e he).1,k.cell (hc i e he).2⟩⟩
theorem pl_kept{w w':World}{p:Option Addr}{n:Nat}{l:List En}(h:Pl w p n l)(k:Kept w w'):Pl w' p n l:=by
 obtain⟨b,off,ha,hc⟩:=h.out;exact⟨h.len,b,off,ha,fun i e he=>⟨k.cell (hc i e he).1,k.cell (hc i e he).2⟩⟩
set_option maxRecDepth 100000 in
set_option maxHeartbeats 2000000 in
theorem ranges_law{w:World}(hL:S.Lds w){pa:Option Addr}{na ca:Nat}(A:Strs w pa na)(s tz:ByteArray)(most:Int) :
  Calls Tryz.prog 3 #[.slice pa na ca,.agg #[.string s,.string tz],.int .i64 most] w fun e w'=>e=.returned (.bool true)∧Kept w w':=by
 have ka:Kept w (w.alloc (.cells #[.string s,.string tz] 23)):=(Kept.refl w).alloc _;obtain⟨mm,hm,hmm⟩:=N.lowbits 7 127 (by decide) (by decide) most;have hmm':bits .and .i64 most 127=(mm:Int):=hmm;clear hmm;have f1:=begun_walk (ca:=ca) (lds_kept hL ka) (A.kept ka);have f4:Hid (∀ W,Kept w W→Calls Tryz.prog 11 #[] W fun e w'=>e=.returned (.bool true)∧Kept W w'):=fun W k=>awake_walk (lds_kept hL k)
 have hB:=heap_alloc_new w (.cells #[.string s,.string tz] 23);have HLn:Hid ((begl (A.kept ka).s (min na 100)).length≤100):=by have:=begl_len (A.kept ka).s (min na 100);show _≤100;omega
 generalize begl (A.kept ka).s (min na 100)=l at f1 HLn;have f2:Hid (∀ W t p kp n kc,Gs (w.alloc (.cells #[.string s,.string tz] 23)) W t p kp n kc l l→Calls Tryz.prog 9 #[.pointer (some ⟨t,0,none⟩),.string s,.string tz,.int .i64 (mm:Nat)] W fun e w'=>∃ q n c,e=.returned (.tuple #[.slice q n c,.int .i64 0])∧Pq w' q n (rng s tz mm l)∧Kept W w'):=fun W t p kp n kc h=>by
  obtain⟨Z,HS⟩:=h.seek;refine (range_walk (s:=s) (tz:=tz) (most:=mm) HS (by omega)).mono ?_;rintro e w' ⟨q,n,c,rfl,hR,k⟩;exact⟨q,n,c,rfl,Pq.of hR,k⟩
 have f3:Hid (∀ W t p kp n kc,n≤1000→Gs (w.alloc (.cells #[.string s,.string tz] 23)) W t p kp n kc l l→Calls Tryz.prog 10 #[.slice kp n kc,.string s,.string tz,.int .i64 (mm:Nat)] W fun e w'=>∃ q n c,e=.returned (.slice q n c)∧Pl w' q n (rng s tz mm l)∧Kept W w'):=fun W t p kp n kc hn h=>by
  rw[rng_rrng h.ord];refine (ref_range h.rw_ hn s tz mm (by omega)).mono ?_;rintro e w' ⟨q,n,c,rfl,hR,k⟩;exact⟨q,n,c,rfl,Pl.of hR,k⟩
 clear hL A;go_enter Tryz.func3,Tryz.ntmps3;go_wp2_with (go_at_call 8;(with_reducible refine f1.mono ?_);rintro e w1 ⟨t,p,kp,n,kc,rfl,G1⟩;have hb1:=G1.low.block hB;have e0:w1.cell? ⟨w.heap.size,0,none⟩=some (.string s):=(by rw[cell_of_row _ _ 0 _ _ _ hb1];rfl);have e1:w1.cell? ⟨w.heap.size,1,none⟩=some (.string tz):=(by rw[cell_of_row _ _ 1 _ _ _ hb1];rfl);have HG1:Hid (Gs (w.alloc (.cells #[.string s,.string tz] 23)) w1 t p kp n kc l l):=G1;clear f1 G1 hb1);go_quiet (fail);have kq:Kept w1 (w1.drewN nq):=⟨⟨rfl,rfl,rfl,Nat.le_refl _,fun _ _=>rfl⟩⟩;generalize w1.drewN nq=w2 at kq ⊢;have hn:n≤1000:=by have:=HG1.out.len;have:=HLn.out;omega
 have g2:=f2.out _ t p kp n kc (HG1.out.kept kq);have HG2:Hid (Gs (w.alloc (.cells #[.string s,.string tz] 23)) w2 t p kp n kc l l):=HG1.out.kept kq;clear HG1 kq e0 e1 hB;go_wp2_with (first
  | (go_at_call 9;(with_reducible refine g2.mono ?_);rintro e w3 ⟨q,ng,cg,rfl,PG,k3⟩;have g3:=f3.out _ t p kp n kc hn (HG2.out.kept k3);have HPG:Hid (Pq w3 q ng (rng s tz mm l)):=PG;clear g2 PG f2)
  | (go_at_call 10;(with_reducible refine g3.mono ?_);rintro e w4 ⟨q2,ng2,c2,rfl,PW,k4⟩;obtain rfl:ng2=ng:=PW.len.symm.trans HPG.out.len;have k34:Kept w3 w4:=k4;have KW4:Kept w w4:=((ka.trans HG2.out.low).trans k3).trans k4;have g4:=f4.out _ KW4;have HPW:Hid (Pl w4 q2 ng2 (rng s tz mm l)):=PW;clear g3 PW f3)
  | (go_at_call 11;(with_reducible refine g4.mono ?_);rintro e w5 ⟨rfl,k5⟩;have HPG5:Hid (Pq w5 q ng2 (rng s tz mm l)):=HPG.out.kept (k34.trans k5);have HPW5:Hid (Pl w5 q2 ng2 (rng s tz mm l)):=pl_kept HPW.out k5;have KW5:=KW4.trans k5;clear g4 HPG HPW))
 obtain⟨ln,b1,o1,at1,cs1⟩:=HPG5.out;obtain⟨_,b2,o2,at2,cs2⟩:=HPW5.out;have hng:ng2≤1000:=by
  have:(rng s tz mm l).length≤mm:=by unfold rng;rw[List.length_take];omega
  omega
 generalize rng s tz mm l=Gg at *;have HLg:Hid (Gg.length=ng2):=ln;have AT1:Hid (0<ng2→q=some ⟨b1,o1,none⟩):=at1;have AT2:Hid (0<ng2→q2=some ⟨b2,o2,none⟩):=at2;have CS1:Hid (∀ i e,Gg[i]? = some e→w5.cell? ⟨b1,o1+i*4,none⟩=some (.string e.1)∧w5.cell? ⟨b1,o1+i*4+1,none⟩=some (.string e.2.d)):=cs1;have CS2:Hid (∀ i e,Gg[i]? = some e→w5.cell? ⟨b2,o2+i*2,none⟩=some (.string e.1)∧w5.cell? ⟨b2,o2+i*2+1,none⟩=some (.string e.2.d)):=cs2;have HK5:Hid (Kept w w5):=KW5;clear ln at1 at2 cs1 cs2 HPG5 HPW5 KW4 KW5 k5 k34 HG2;go_loopg [15] ng2 (fun gg iv wx=>∃ i:Nat,iv=.int .i64 (i:Nat)∧Hid (gg=ng2-i)∧i≤ng2∧Hid (Kept w5 wx));case atStart=>exact⟨0,rfl,rfl,Nat.zero_le _,Kept.refl _⟩
 case round=>
  obtain⟨i,rfl,hg,hin,kw⟩:=hrel;by_cases h1:(i:Int)<(ng2:Int)
  ·obtain⟨x,hx⟩:∃ x,Gg[i]? = some x:=⟨_,List.getElem?_eq_getElem (by rw[HLg.out];omega)⟩
   obtain rfl:=AT1.out (by omega);obtain rfl:=AT2.out (by omega);have c0:=kw.out.cell (CS1.out i x hx).1;have c1:=kw.out.cell (CS1.out i x hx).2;have c2':=kw.out.cell (CS2.out i x hx).1;have c3:=kw.out.cell (CS2.out i x hx).2;have HLt:Hid (i<ng2):=by show i<ng2;omega
   clear hx;go_wp2;go_quiet (fail);go_wp2;go_roundg (ng2-(i+1));case measure=>rw[hg.out];have:=HLt.out;omega
   case rel=>exact⟨i+1,by go_num,rfl,HLt.out,⟨kw.out.out.trans ⟨rfl,rfl,rfl,Nat.le_refl _,fun _ _=>rfl⟩⟩⟩
  ·have kk:=HK5.out.trans kw.out
   go_wp2;go_ret;exact⟨rfl,kk⟩
end Go.Proofs.YtafgecaeiodmiaaGreatDoor.T