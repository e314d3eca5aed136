/- Joined. -/
import Derived.Test.YtafgecaeiodmiaaGreatDoorZbn
import Derived.Test.YtafgecaeiodmiaaGreatDoorZcc
import Derived.Deep.QuietTactic
import Derived.BigQuiet
namespace Go.Proofs.YtafgecaeiodmiaaGreatDoor.T
open Go.ChangeShapes Go.WideShapes Go.ChangeAt Go.RowKit
open B (Pm R En Tr Tree con fm pg pg_some Wf us nodup_few)
open N (Nd NV Rw Rx Kept icl)
theorem pg_few{B:Nat}{w:World}{p m d n:Nat}{M:Pm}(hV:Pv B w p m M)(hTr:Tr M d n):(pg M d n).length≤m:=by
 refine nodup_few m (pg M d n) (pg_nodup hTr) fun q hq=>?_
 have h1:=hTr.cnt q;have h2:0<(pg M d n).count q:=List.count_pos_iff.2 hq;have h3:(M q).isSome=true:=by
  unfold us at h1;cases h:(M q).isSome with
  | true=>rfl
  | false=>rw[h]at h1;simp at h1;omega
 obtain⟨x,hx⟩:=Option.isSome_iff_exists.1 h3;exact (hV.rng q x hx).2.1
theorem po_last{M:Pm}(d n:Nat):∃ a,po M d n=a++[n]:=⟨_,rfl⟩
structure PgOk (w:World) (q:Option Addr) (np:Nat) (pgs:List Nat) (r:Int) (n:Nat):Prop where
 len:pgs.length=np
 few:np≤600
 nd:pgs.Nodup
 at_:∃ b o,(0<np→q=some ⟨b,o,none⟩)∧∀ j x,pgs[j]? = some x→w.cell? ⟨b,o+j,none⟩=some (.int .i64 (x:Nat))
 none_:n=0→np=0
 last:0<n→∃ k x,np=k+1∧pgs[k]? = some x∧r=(x:Nat)
theorem pages_any{B:Nat}{W:World}{t p:Nat}{r:Int}{M:Pm}{l:List En}(V:Vw B W t p 600 r M l)(hl:l.length≤100) :
  Calls Tryz.prog 14 #[.pointer (some ⟨t,0,none⟩),.func (.func 15) #[] #[.pointer (some ⟨W.heap.size,0,none⟩)]] (W.alloc (.cells #[.int .i64 0] 3)) fun e w'=>∃ q np c pgs,e=.returned (.tuple #[.slice q np c,.int .i64 0])∧PgOk w' q np pgs r l.length∧w'.heap[W.heap.size]? = some (.cells #[.int .i64 (l.length:Nat)] 3)∧Kept W w':=by
 have ka:Kept W (W.alloc (.cells #[.int .i64 0] 3)):=(Kept.refl W).alloc _;rcases V.tr with⟨rfl,rfl,_⟩|⟨d,n,rfl,hTr,rfl⟩
 ·refine (pages_nil (V.tat.kept ka) _).mono ?_
  rintro e w' ⟨rfl,rfl⟩;exact⟨_,_,_,[],rfl,⟨rfl,by omega,List.Pairwise.nil,⟨0,0,fun h=>absurd h (by omega),fun j x h=>by cases h⟩,fun _=>rfl,fun h=>absurd h (by simp)⟩,heap_alloc_new W _,ka⟩
 ·refine (pages_some V.tat V.pv hTr (by unfold kys;omega)).mono ?_
  rintro e w' ⟨q,np,c,rfl,hR,hb,k⟩;have hlen:(po M d n).length=np:=by
   have:=hR.len;rw[N.icl_length]at this;simp[pints]at this;omega
  have hpm:=po_perm d n hTr.wf;have hfew:=pg_few V.pv hTr;refine⟨q,np,c,po M d n,rfl,⟨hlen,by have:=hpm.length_eq;omega,hpm.nodup_iff.2 (pg_nodup hTr),?_,fun h=>?_,fun _=>?_⟩,hb,k⟩
  ·rcases hR.out with⟨rfl,rfl⟩|⟨b,off,rfl,hc⟩
   ·refine⟨0,0,fun h=>absurd h (by omega),fun j x hx=>?_⟩
    rw[List.length_eq_zero_iff.1 hlen]at hx;cases hx
   ·exact⟨b,off,fun _=>rfl,fun j x hx=>hc j _ (N.icl_at (by simp[pints,hx]))⟩
  ·have:=kys_pos d n hTr.wf
   unfold kys at this;omega
  ·obtain⟨a,ha⟩:=po_last (M:=M) d n
   refine⟨a.length,n,?_,?_,rfl⟩
   ·rw[← hlen,ha];simp
   ·rw[ha];simp
set_option maxRecDepth 100000 in
set_option maxHeartbeats 2000000 in
theorem pages_law{w:World}(hL:S.Lds w){pa:Option Addr}{na ca:Nat}(A:Strs w pa na) :
  Calls Tryz.prog 6 #[.slice pa na ca] w fun e w'=>e=.returned (.bool true)∧Kept w w':=by
 have f1:=begun_walk (ca:=ca) hL A;have f4:Hid (∀ W,Kept w W→Calls Tryz.prog 11 #[] W fun e w'=>e=.returned (.bool true)∧Kept W w'):=fun W k=>awake_walk (lds_kept hL k)
 have HLn:Hid ((begl A.s (min na 100)).length≤100):=by have:=begl_len A.s (min na 100);show _≤100;omega
 generalize begl A.s (min na 100)=l at f1 HLn;have f2:Hid (∀ W t p kp n kc,Gs w W t p kp n kc l l→Calls Tryz.prog 14 #[.pointer (some ⟨t,0,none⟩),.func (.func 15) #[] #[.pointer (some ⟨W.heap.size,0,none⟩)]] (W.alloc (.cells #[.int .i64 0] 3)) fun e w'=>∃ q np c pgs r,e=.returned (.tuple #[.slice q np c,.int .i64 0])∧PgOk w' q np pgs r n∧w'.heap[W.heap.size]? = some (.cells #[.int .i64 (n:Nat)] 3)∧Kept W w'∧TAt w' t p r):=fun W t p kp n kc h=>by
  obtain⟨B,r,M,hB,V⟩:=h.vw;have hn:=h.len;refine (pages_any V HLn.out).mono ?_;rintro e w' ⟨q,np,c,pgs,rfl,hP,hb,k⟩;rw[hn]at hP hb;exact⟨q,np,c,pgs,r,rfl,hP,hb,k,V.tat.kept k⟩
 clear hL A;go_enter Tryz.func6,Tryz.ntmps6;go_wp2_with (first
  | (go_at_call 8;(with_reducible refine f1.mono ?_);rintro e w1 ⟨t,p,kp,n,kc,rfl,G1⟩;have g4:=f4.out _ G1.low;have HG1:Hid (Gs w w1 t p kp n kc l l):=G1;clear f1 G1 f4)
  | (go_at_call 11;(with_reducible refine g4.mono ?_);rintro e w2 ⟨rfl,k2⟩;have HG2:Hid (Gs w w2 t p kp n kc l l):=HG1.out.kept k2;have g2:=f2.out _ t p kp n kc HG2.out;clear g4 k2 HG1 f2)
  | (go_at_call 14;(with_reducible refine g2.mono ?_);rintro e w3 ⟨q,np,c,pgs,r,rfl,PG,hbx,k3,T3⟩;have HPG:Hid (PgOk w3 q np pgs r n):=PG;have KW3:Hid (Kept w w3):=HG2.out.low.trans k3;have hn100:n≤100:=(by have:=HG2.out.len;have:=HLn.out;omega);have hx:w3.cell? ⟨w2.heap.size,0,none⟩=some (.int .i64 (n:Nat)):=(by rw[cell_of_row _ _ 0 _ _ _ hbx];rfl);clear g2 PG k3 HG2 HLn hbx))
 have fr:Hid (∀ m,Calls Tryz.prog 16 #[.pointer (some ⟨t,0,none⟩)] (w3.drewN m) fun e w'=>e=.returned (.int .i64 r)∧w'=w3.drewN m):=fun m=>root_walk (T3.kept ⟨⟨rfl,rfl,rfl,Nat.le_refl _,fun _ _=>rfl⟩⟩)
 clear T3;have LP:Hid (∀ wq:World,Kept w3 wq→True):=fun _ _=>trivial
 obtain⟨lp,few,nd,⟨b,o,hat,hcs⟩,hnone,hlast⟩:=HPG.out;have HND:Hid (pgs.Nodup):=nd;have HLP:Hid (pgs.length=np):=lp;have HAT:Hid (0<np→q=some ⟨b,o,none⟩):=hat;have HCS:Hid (∀ j x,pgs[j]? = some x→w3.cell? ⟨b,o+j,none⟩=some (.int .i64 (x:Nat))):=hcs;clear lp nd hat hcs HPG LP;have loops:Hid True:=trivial;rcases Nat.eq_zero_or_pos n with rfl | hn
 ·obtain rfl:=hnone rfl
  clear hlast hnone;go_quiet ((go_at_call 16;exact Calls.quiet_of_same (fr.out _)));have kq:Kept w3 (w3.drewN nq):=⟨⟨rfl,rfl,rfl,Nat.le_refl _,fun _ _=>rfl⟩⟩;have KK:Hid (Kept w (w3.drewN nq)):=KW3.out.trans kq;generalize w3.drewN nq=w4 at *;go_wp2;refine wp_loop_rounds 1 ?_;rw[rounds_succ];go_wp2;go_ret;exact⟨rfl,KK.out⟩
 ·obtain⟨k,x,rfl,hk,rfl⟩:=hlast hn
  obtain rfl:=HAT.out (by omega);have hc:=HCS.out k x hk;have hn1:(0:Int)<(n:Int):=by omega
  have hn2:((n:Int) == 0)=false:=by simp;omega
  have hk1:(((k+1:Nat):Int)-1)=(k:Int):=by omega
  clear hnone hlast hk;go_quiet ((go_at_call 16;exact Calls.quiet_of_same (fr.out _)));have kq:Kept w3 (w3.drewN nq):=⟨⟨rfl,rfl,rfl,Nat.le_refl _,fun _ _=>rfl⟩⟩;have KK:Hid (Kept w (w3.drewN nq)):=KW3.out.trans kq;have HCS4:Hid (∀ j x,pgs[j]? = some x→(w3.drewN nq).cell? ⟨b,o+j,none⟩=some (.int .i64 (x:Nat))):=fun j x h=>kq.cell (HCS.out j x h)
  generalize w3.drewN nq=w4 at *;clear HCS hc hx fr hn2 hk1 HAT KW3 kq;obtain⟨np,hnp⟩:∃ np,k+1=np:=⟨_,rfl⟩;rw[hnp]at few HLP ⊢;clear hnp;go_wp2;go_loopg [9] np (fun gg iv wx=>∃ i:Nat,iv=.int .i64 (i:Nat)∧Hid (gg=np-i)∧i≤np∧Hid (Kept w4 wx));case atStart=>exact⟨0,rfl,rfl,Nat.zero_le _,Kept.refl _⟩
  case round=>
   obtain⟨i,rfl,hg,hin,kw⟩:=hrel;by_cases h1:(i:Int)<(np:Int)
   ·go_wp2
    go_loopg [10] i (fun gg jv wx=>∃ j:Nat,jv=.int .i64 (j:Nat)∧Hid (gg=i-j)∧j≤i∧Hid (Kept w4 wx));case atStart=>exact⟨0,rfl,rfl,Nat.zero_le _,kw⟩
    case round=>
     obtain⟨j,rfl,hg2,hji,kw2⟩:=hrel;by_cases h2:(j:Int)<(i:Int)
     ·obtain⟨y,hy⟩:∃ y,pgs[i]? = some y:=⟨_,List.getElem?_eq_getElem (by rw[HLP.out];omega)⟩
      obtain⟨z,hz⟩:∃ z,pgs[j]? = some z:=⟨_,List.getElem?_eq_getElem (by rw[HLP.out];omega)⟩;have c0:=kw2.out.cell (HCS4.out i y hy);have c1:=kw2.out.cell (HCS4.out j z hz);have hyz:¬ (y:Int)=(z:Int):=by
       intro e;have e':y=z:=by omega
       subst e';have hi':=List.getElem?_eq_some_iff.1 hy;have hj':=List.getElem?_eq_some_iff.1 hz;have:=(List.getElem_inj HND.out).1 (hi'.2.trans hj'.2.symm);omega
      have hyb:((y:Int) == (z:Int))=false:=by simpa using hyz
      have h3:(j:Int)<(np:Int):=by omega
      clear hy hz;go_wp2;go_quiet (fail);go_wp2;go_roundg (i-(j+1));case measure=>rw[hg2.out];omega
      case rel=>exact⟨j+1,by go_num,rfl,by omega,⟨kw2.out.out.trans ⟨rfl,rfl,rfl,Nat.le_refl _,fun _ _=>rfl⟩⟩⟩
     ·go_wp2
      go_roundg (np-(i+1));case measure=>rw[hg.out];omega
      case rel=>exact⟨i+1,by go_num,rfl,by omega,kw2⟩
   ·have kk:=KK.out.trans kw.out
    go_wp2;go_ret;exact⟨rfl,kk⟩
end Go.Proofs.YtafgecaeiodmiaaGreatDoor.T