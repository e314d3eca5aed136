/- Joined. -/
import Derived.Test.YtafgecaeiodmiaaGreatDoorZbn
namespace Go.Proofs.YtafgecaeiodmiaaGreatDoor.T
open Go.ChangeShapes Go.WideShapes Go.ChangeAt Go.RowKit
open B (Pm Mk En upd Tree Ord R sl_asymm)
open N (Kept Rw Rx Vl sl sl_trans)
def rrng (s tz:ByteArray) (most:Nat) (l:List En):List En:=(l.filter fun e=>!sl e.1 s && sl e.1 tz).take most
theorem rrng_yes{s tz:ByteArray}{most:Nat}{l:List En}{x:En}(h1:sl x.1 s=false)(h2:sl x.1 tz=true)(h3:(rrng s tz most l).length<most):rrng s tz most (l++[x])=rrng s tz most l++[x]:=by
 unfold rrng at *;have hx:(!sl x.1 s && sl x.1 tz)=true:=by rw[h1,h2];rfl
 rw[List.length_take]at h3;rw[List.filter_append,List.filter_cons_of_pos (p:=fun e:En=>!sl e.1 s && sl e.1 tz) hx,List.filter_nil,List.take_append,List.take_of_length_le (l:=[x]) (by simp;omega)]
theorem rrng_full{s tz:ByteArray}{most:Nat}{l:List En}{x:En}(h3:¬ (rrng s tz most l).length<most):rrng s tz most (l++[x])=rrng s tz most l:=by
 unfold rrng at *;rw[List.length_take]at h3;rw[List.filter_append,List.take_append_of_le_length (by omega)]
theorem rrng_no{s tz:ByteArray}{most:Nat}{l:List En}{x:En}(h:(!sl x.1 s && sl x.1 tz)=false):rrng s tz most (l++[x])=rrng s tz most l:=by
 unfold rrng;rw[List.filter_append,List.filter_cons_of_neg (p:=fun e:En=>!sl e.1 s && sl e.1 tz) (by rw[h];decide),List.filter_nil,List.append_nil]
theorem ord_while{tz:ByteArray}:∀ {l:List En},Ord l→(l.takeWhile fun e=>sl e.1 tz)=l.filter fun e=>sl e.1 tz
 | [],_=>rfl
 | x :: l,h=>by
  obtain⟨h1,h2⟩:=List.pairwise_cons.1 h;by_cases hx:sl x.1 tz=true
  ·rw[List.takeWhile_cons_of_pos (p:=fun e:En=>sl e.1 tz) hx,List.filter_cons_of_pos (p:=fun e:En=>sl e.1 tz) hx,ord_while h2]
  ·rw[List.takeWhile_cons_of_neg (p:=fun e:En=>sl e.1 tz) hx,List.filter_cons_of_neg (p:=fun e:En=>sl e.1 tz) hx,List.filter_eq_nil_iff.2]
   intro e he q;exact hx (sl_trans (h1 e he) q)
theorem rng_rrng{s tz:ByteArray}{most:Nat}{l:List En}(h:Ord l):rng s tz most l=rrng s tz most l:=by
 unfold rng rrng frm;rw[ord_while (List.Pairwise.filter _ h),List.filter_filter];congr 2;funext e;rw[Bool.and_comm]
theorem snoc_take{l:List En}{i:Nat}{x:En}(h:l[i]? = some x):l.take (i+1)=l.take i++[x]:=by rw[List.take_add_one,h];rfl
set_option maxRecDepth 100000 in
set_option maxHeartbeats 2000000 in
theorem ref_range{w:World}{p:Option Addr}{n c:Nat}{l:List En}(h:Rw w 2 p n c (prs l))(hn:n≤1000)(s tz:ByteArray)(most:Nat)(hm:most≤127) :
  Calls Tryz.prog 10 #[.slice p n c,.string s,.string tz,.int .i64 (most:Nat)] w fun e w'=>∃ p' n' c',e=.returned (.slice p' n' c')∧Rw w' 2 p' n' c' (prs (rrng s tz most l))∧Kept w w':=by
 obtain⟨i42,hi,hz0,hz1,hz2⟩:=info_parts info39;obtain⟨hl,b,off,hat,hcl⟩:=Pl.of h;have HL:Hid (l.length=n):=hl;have AT:Hid (0<n→p=some ⟨b,off,none⟩):=hat;have HC:Hid (∀ i e,l[i]? = some e→w.cell? ⟨b,off+i*2,none⟩=some (.string e.1)∧w.cell? ⟨b,off+i*2+1,none⟩=some (.string e.2.d)):=hcl;have S0:Hid (N.Own (w.alloc (.cells #[] 39)) w.heap.size 39 2 (some ⟨w.heap.size,0,none⟩) 0 0 (prs [])):=⟨World.ownsRow_made w #[] 0 (Nat.le_refl _) (Nat.zero_le _) rfl⟩;have K0:Hid (Kept w (w.alloc (.cells #[] 39))):=(Kept.refl w).alloc _;clear hl hat hcl h;go_enter Tryz.func10,Tryz.ntmps10;go_wp2;go_loopg [9,10] n (fun gg ov iv wx=>∃ (i m qc:Nat) (q:Option Addr) (out:List En),ov=.slice q m qc∧iv=.int .i64 (i:Nat)∧Hid (gg=n-i)∧i≤n∧Hid (m≤most)∧Hid (N.Own wx w.heap.size 39 2 q m qc (prs out))∧Hid (Kept w wx)∧Hid (out=rrng s tz most (l.take i)∧out.length=m));case atStart=>exact⟨0,0,0,_,[],rfl,rfl,rfl,Nat.zero_le _,Nat.zero_le _,S0,K0,⟨by simp[rrng],rfl⟩⟩
 case round=>
  obtain⟨i,m,qc,q,out,rfl,rfl,hg,hin,HMM,O,K,HO⟩:=hrel;clear S0 K0;by_cases h1:(i:Int)<(n:Int)
  ·obtain rfl:=AT.out (by omega)
   obtain⟨x,hx⟩:∃ x,l[i]? = some x:=⟨_,List.getElem?_eq_getElem (by rw[HL.out];omega)⟩;have HX:Hid (l[i]? = some x):=hx;obtain⟨c0',c1'⟩:=HC.out i x hx;have c0:=K.out.cell c0';have c1:=K.out.cell c1';clear c0' c1' hx;by_cases hs:Op.bytesLess x.1.toList s.toList=true
   ·have H2:Hid (out=rrng s tz most (l.take (i+1))∧out.length=m):=⟨by rw[snoc_take HX.out,rrng_no (by rw[show sl x.1 s=true from hs];rfl)];exact HO.out.1,HO.out.2⟩
    clear HO;go_wp2;go_roundg (n-(i+1));case measure=>rw[hg.out];omega
    case rel=>exact⟨i+1,m,_,_,out,rfl,by go_num,rfl,by omega,HMM,O,K,H2⟩
   ·have hs':Op.bytesLess x.1.toList s.toList=false:=by simpa using hs
    clear hs;by_cases ht:Op.bytesLess x.1.toList tz.toList=true
    ·by_cases h3:(m:Int)<(most:Int)
     ·have H2:Hid (out++[x]=rrng s tz most (l.take (i+1))∧(out++[x]).length=m+1):=⟨by rw[snoc_take HX.out,rrng_yes hs' ht (by rw[← HO.out.1,HO.out.2];omega),← HO.out.1],by rw[List.length_append,HO.out.2];rfl⟩
      have hm3:m<127:=by omega
      clear HO;go_wp2_with (at_builtin;refine wpList_append_own _ rfl _ _ 25 rfl w.heap.size 39 i42 _ 2 32 Tryz.underlying25 hi hz0 hz1 hz2 rfl (by decide) (.slice q m qc) m (prs out) rfl (O.out.kept ((Kept.refl wr).alloc (.cells #[.string x.1,.string x.2.d] 39))).out ⟨wr.heap.size,0,none⟩ 1 1 [.string x.1,.string x.2.d] rfl rfl (two_cellsA wr _ _ 39) (by intro u hu;simp at hu;rcases hu with rfl | rfl <;> rfl) (by unfold maxLen;omega) (by omega) (Nat.le_trans K.out.size ((Kept.refl wr).alloc (.cells #[.string x.1,.string x.2.d] 39)).size) ?_;intro v' w5 o5 g5 _;obtain⟨kq,c5,rfl⟩:=N.owns_shape o5;have O5:Hid (N.Own w5 w.heap.size 39 2 kq (m+1) c5 (prs (out++[x]))):=own_pairs o5;have K5:Hid (Kept w w5):=grown_own (K.out.trans ((Kept.refl wr).alloc _)) (O.out.kept ((Kept.refl wr).alloc _)) g5;clear o5 g5 O K);go_roundg (n-(i+1));case measure=>rw[hg.out];omega
      case rel=>exact⟨i+1,m+1,_,_,out++[x],rfl,by go_num,rfl,by omega,(show m+1≤most by omega),O5,K5,H2⟩
     ·have H2:Hid (out=rrng s tz most (l.take (i+1))∧out.length=m):=⟨by rw[snoc_take HX.out,rrng_full (by rw[← HO.out.1,HO.out.2];omega)];exact HO.out.1,HO.out.2⟩
      clear HO;go_wp2;go_roundg (n-(i+1));case measure=>rw[hg.out];omega
      case rel=>exact⟨i+1,m,_,_,out,rfl,by go_num,rfl,by omega,HMM,O,K,H2⟩
    ·have ht':Op.bytesLess x.1.toList tz.toList=false:=by simpa using ht
     clear ht;have H2:Hid (out=rrng s tz most (l.take (i+1))∧out.length=m):=⟨by rw[snoc_take HX.out,rrng_no (by rw[show sl x.1 tz=false from ht',Bool.and_false])];exact HO.out.1,HO.out.2⟩;clear HO;go_wp2;go_roundg (n-(i+1));case measure=>rw[hg.out];omega
     case rel=>exact⟨i+1,m,_,_,out,rfl,by go_num,rfl,by omega,HMM,O,K,H2⟩
  ·have e:out=rrng s tz most l:=by rw[HO.out.1,List.take_of_length_le (by rw[HL.out];omega)]
   have O5:=O.out.rw;rw[e]at O5;have HO5:Hid (Rw wr 2 q m qc (prs (rrng s tz most l))):=O5;clear O5 e HO O;go_wp2;go_ret;exact⟨_,_,_,rfl,HO5.out,K.out⟩
end Go.Proofs.YtafgecaeiodmiaaGreatDoor.T