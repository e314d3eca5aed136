/- Joined: VB. What is proved of the functions beneath BtreeEnds,BtreeFull,BtreeShape,BtreePlays. Conditions: those that each row names. -/
import Derived.Test.YtncfpjccfmolgaaGreatDoorZbs
namespace Go.Proofs.YtncfpjccfmolgaaGreatDoor.T
open Go.ChangeShapes Go.WideShapes Go.ChangeAt Go.RowKit
open B (En upd got Ord)
open N (Kept Own Rw blk ob sl sl_total sl_trans sl_irrefl seq_iff)
theorem own_pairs {W:World} {B:Nat} {q:Option Addr} {m qc:Nat} {out:List En} {x:En} (h:W.ownsRow B 42 2 (.slice q m qc) m (prs out++[.string x.1,.string x.2.d])):Own W B 42 2 q m qc (prs (out++[x])):=⟨by rw[prs_append];exact h⟩
set_option maxRecDepth 100000 in
set_option maxHeartbeats 2000000 in
theorem ref_put {w:World} {p:Option Addr} {n c:Nat} {l:List En} (h:Rw w 2 p n c (prs l)) (ho:Ord l) (hn:n≤1000) (k v:ByteArray) :
  Calls Tryz.prog 16 #[.slice p n c,.string k,.string v] w fun e w'=>∃ p' n' c',e=.returned (.slice p' n' c')∧Own w' w.heap.size 42 2 p' n' c' (prs (upd k [(k,⟨v,-1,0⟩)] l))∧Kept w w':=by
 obtain⟨i42,hi,hz0,hz1,hz2⟩:=info_parts info42
 obtain⟨hl,b,off,hat,hcl⟩:=Pl.of h
 have HL:Hid (l.length=n):=hl
 have HO:Hid (Ord l):=ho
 have AT:Hid (0<n→p=some ⟨b,off,none⟩):=hat
 have HC:Hid (∀ i e,l[i]? = some e→w.cell? ⟨b,off+i*2,none⟩=some (.string e.1)∧w.cell? ⟨b,off+i*2+1,none⟩=some (.string e.2.d)):=hcl
 have S0:Hid (Own (w.alloc (.cells #[] 42)) w.heap.size 42 2 (some ⟨w.heap.size,0,none⟩) 0 0 (prs [])):=⟨World.ownsRow_made w #[] 0 (Nat.le_refl _) (Nat.zero_le _) rfl⟩
 have K0:Hid (Kept w (w.alloc (.cells #[] 42))):=(Kept.refl w).alloc _
 clear hl ho hat hcl h
 go_enter Tryz.func16,Tryz.ntmps16
 go_wp2
 go_loopg [7,8,9] n (fun gg ov dv iv wx=>∃ (i m qc:Nat) (q:Option Addr) (dn:Bool) (out:List En),ov=.slice q m qc∧dv=.bool dn∧iv=.int .i64 (i:Nat)∧Hid (gg=n-i)∧i≤n∧Hid (m≤i+dn.toNat)∧Hid (Own wx w.heap.size 42 2 q m qc (prs out))∧Hid (Kept w wx)∧Hid (Pt k v l i dn out))
 case atStart=>exact⟨0,0,0,_,false,[],rfl,rfl,rfl,rfl,Nat.zero_le _,Nat.zero_le _,S0,K0,Pt.start k v l⟩
 case round=>
  obtain⟨i,m,qc,q,dn,out,rfl,rfl,rfl,hg,hin,HMM,O,K,P⟩:=hrel
  clear S0 K0
  by_cases h1:(i:Int)<(n:Int)
  ·obtain rfl:=AT.out (by omega)
   obtain⟨x,hx⟩:∃ x,l[i]? = some x:=⟨_,List.getElem?_eq_getElem (by rw[HL.out];omega)⟩
   have HX:Hid (l[i]? = some x):=hx
   obtain⟨c0',c1'⟩:=HC.out i x hx
   have c0:=K.out.cell c0'
   have c1:=K.out.cell c1'
   clear c0' c1' hx
   cases dn with
   | true=>
    have hm:m≤i+1:=HMM.out
    go_wp2_with (at_builtin;refine wpList_append_own _ rfl _ _ 27 rfl w.heap.size 42 i42 _ 2 32 Tryz.underlying27 hi hz0 hz1 hz2 rfl (by decide) (.slice q m qc) m (prs out) rfl (O.out.kept ((Kept.refl wr).alloc (.cells #[.string x.1,.string x.2.d] 42))).out ⟨wr.heap.size,0,none⟩ 1 1 [.string x.1,.string x.2.d] rfl rfl (two_cellsA wr _ _ 42) (by intro u hu;simp at hu;rcases hu with rfl | rfl <;> rfl) (by unfold maxLen;omega) (by omega) (Nat.le_trans K.out.size ((Kept.refl wr).alloc (.cells #[.string x.1,.string x.2.d] 42)).size) ?_;intro v' w5 o5 g5 _;obtain⟨kq,c5,rfl⟩:=N.owns_shape o5;have O5:Hid (Own w5 w.heap.size 42 2 kq (m+1) c5 (prs (out++[x]))):=own_pairs o5;have K5:Hid (Kept w w5):=grown_own (K.out.trans ((Kept.refl wr).alloc _)) (O.out.kept ((Kept.refl wr).alloc _)) g5;clear o5 g5 O K)
    go_roundg (n-(i+1))
    case measure=>rw[hg.out];omega
    case rel=>exact⟨i+1,m+1,_,_,true,_,rfl,rfl,by go_num,rfl,by omega,(show m+1≤i+1+1 by omega),O5,K5,Pt.later HO.out P.out HX.out⟩
   | false=>
    have hm:m≤i:=HMM.out
    by_cases hs:Op.bytesLess x.1.toList k.toList=true
    ·go_wp2_with (at_builtin;refine wpList_append_own _ rfl _ _ 27 rfl w.heap.size 42 i42 _ 2 32 Tryz.underlying27 hi hz0 hz1 hz2 rfl (by decide) (.slice q m qc) m (prs out) rfl (O.out.kept ((Kept.refl wr).alloc (.cells #[.string x.1,.string x.2.d] 42))).out ⟨wr.heap.size,0,none⟩ 1 1 [.string x.1,.string x.2.d] rfl rfl (two_cellsA wr _ _ 42) (by intro u hu;simp at hu;rcases hu with rfl | rfl <;> rfl) (by unfold maxLen;omega) (by omega) (Nat.le_trans K.out.size ((Kept.refl wr).alloc (.cells #[.string x.1,.string x.2.d] 42)).size) ?_;intro v' w5 o5 g5 _;obtain⟨kq,c5,rfl⟩:=N.owns_shape o5;have O5:Hid (Own w5 w.heap.size 42 2 kq (m+1) c5 (prs (out++[x]))):=own_pairs o5;have K5:Hid (Kept w w5):=grown_own (K.out.trans ((Kept.refl wr).alloc _)) (O.out.kept ((Kept.refl wr).alloc _)) g5;clear o5 g5 O K)
     go_roundg (n-(i+1))
     case measure=>rw[hg.out];omega
     case rel=>exact⟨i+1,m+1,_,_,false,_,rfl,rfl,by go_num,rfl,by omega,(show m+1≤i+1+0 by omega),O5,K5,P.out.below HX.out hs⟩
    ·have hs':Op.bytesLess x.1.toList k.toList=false:=by simpa using hs
     clear hs
     by_cases he:x.1=k
     ·have HE:Hid (x.1=k):=he
      have he':(x.1.toList == k.toList)=true:=by rw[seq_iff];simpa using he
      clear he
      go_wp2_with (at_builtin;refine wpList_append_own _ rfl _ _ 27 rfl w.heap.size 42 i42 _ 2 32 Tryz.underlying27 hi hz0 hz1 hz2 rfl (by decide) (.slice q m qc) m (prs out) rfl (O.out.kept ((Kept.refl wr).alloc (.cells #[.string k,.string v] 42))).out ⟨wr.heap.size,0,none⟩ 1 1 [.string k,.string v] rfl rfl (two_cellsA wr _ _ 42) (by intro u hu;simp at hu;rcases hu with rfl | rfl <;> rfl) (by unfold maxLen;omega) (by omega) (Nat.le_trans K.out.size ((Kept.refl wr).alloc (.cells #[.string k,.string v] 42)).size) ?_;intro v' w5 o5 g5 _;obtain⟨kq,c5,rfl⟩:=N.owns_shape o5;have O5:Hid (Own w5 w.heap.size 42 2 kq (m+1) c5 (prs (out++[(k,⟨v,-1,0⟩)]))):=own_pairs (x:=(k,⟨v,-1,0⟩)) o5;have K5:Hid (Kept w w5):=grown_own (K.out.trans ((Kept.refl wr).alloc _)) (O.out.kept ((Kept.refl wr).alloc _)) g5;have c05:w5.cell? ⟨b,off+i*2,none⟩=some (.string x.1):=K5.out.cell (HC.out i x HX.out).1;have c15:w5.cell? ⟨b,off+i*2+1,none⟩=some (.string x.2.d):=K5.out.cell (HC.out i x HX.out).2;clear o5 g5 O K)
      go_roundg (n-(i+1))
      case measure=>rw[hg.out];omega
      case rel=>exact⟨i+1,m+1,_,_,true,_,rfl,rfl,by go_num,rfl,by omega,(show m+1≤i+1+1 by omega),O5,K5,P.out.same HX.out HE.out⟩
     ·have HE:Hid (¬ x.1=k):=he
      have he':(x.1.toList == k.toList)=false:=by rw[seq_iff];simpa using he
      clear he
      go_wp2_with (first
       | (at_builtin;refine wpList_append_own _ rfl _ _ 27 rfl w.heap.size 42 i42 _ 2 32 Tryz.underlying27 hi hz0 hz1 hz2 rfl (by decide) (.slice q m qc) m (prs out) rfl (O.out.kept ((Kept.refl wr).alloc (.cells #[.string k,.string v] 42))).out ⟨wr.heap.size,0,none⟩ 1 1 [.string k,.string v] rfl rfl (two_cellsA wr _ _ 42) (by intro u hu;simp at hu;rcases hu with rfl | rfl <;> rfl) (by unfold maxLen;omega) (by omega) (Nat.le_trans K.out.size ((Kept.refl wr).alloc (.cells #[.string k,.string v] 42)).size) ?_;intro v' w5 o5 g5 _;obtain⟨kq,c5,rfl⟩:=N.owns_shape o5;have O5:Hid (Own w5 w.heap.size 42 2 kq (m+1) c5 (prs (out++[(k,⟨v,-1,0⟩)]))):=own_pairs (x:=(k,⟨v,-1,0⟩)) o5;have K5:Hid (Kept w w5):=grown_own (K.out.trans ((Kept.refl wr).alloc _)) (O.out.kept ((Kept.refl wr).alloc _)) g5;have c05:w5.cell? ⟨b,off+i*2,none⟩=some (.string x.1):=K5.out.cell (HC.out i x HX.out).1;have c15:w5.cell? ⟨b,off+i*2+1,none⟩=some (.string x.2.d):=K5.out.cell (HC.out i x HX.out).2;clear o5 g5 O K c0 c1)
       | (at_builtin;refine wpList_append_own _ rfl _ _ 27 rfl w.heap.size 42 i42 _ 2 32 Tryz.underlying27 hi hz0 hz1 hz2 rfl (by decide) (.slice kq (m+1) c5) (m+1) (prs (out++[(k,⟨v,-1,0⟩)])) rfl (O5.out.kept ((Kept.refl w5).alloc (.cells #[.string x.1,.string x.2.d] 42))).out ⟨w5.heap.size,0,none⟩ 1 1 [.string x.1,.string x.2.d] rfl rfl (two_cellsA w5 _ _ 42) (by intro u hu;simp at hu;rcases hu with rfl | rfl <;> rfl) (by unfold maxLen;omega) (by omega) (Nat.le_trans K5.out.size ((Kept.refl w5).alloc (.cells #[.string x.1,.string x.2.d] 42)).size) ?_;intro v6 w6 o6 g6 _;obtain⟨kq6,c6,rfl⟩:=N.owns_shape o6;have O6:Hid (Own w6 w.heap.size 42 2 kq6 (m+1+1) c6 (prs (out++[(k,⟨v,-1,0⟩)]++[x]))):=own_pairs o6;have K6:Hid (Kept w w6):=grown_own (K5.out.trans ((Kept.refl w5).alloc _)) (O5.out.kept ((Kept.refl w5).alloc _)) g6;clear o6 g6 O5 K5))
      go_roundg (n-(i+1))
      case measure=>rw[hg.out];omega
      case rel=>exact⟨i+1,m+1+1,_,_,true,_,rfl,rfl,by go_num,rfl,by omega,(show m+1+1≤i+1+1 by omega),O6,K6,P.out.above HX.out hs' HE.out⟩
  ·cases dn with
   | true=>
    go_wp2
    go_ret
    exact⟨q,m,qc,rfl,by rw[← P.out.done (by rw[HL.out];omega)];exact O.out,K.out⟩
   | false=>
    have hm:m≤i:=HMM.out
    go_wp2_with (at_builtin;refine wpList_append_own _ rfl _ _ 27 rfl w.heap.size 42 i42 _ 2 32 Tryz.underlying27 hi hz0 hz1 hz2 rfl (by decide) (.slice q m qc) m (prs out) rfl (O.out.kept ((Kept.refl wr).alloc (.cells #[.string k,.string v] 42))).out ⟨wr.heap.size,0,none⟩ 1 1 [.string k,.string v] rfl rfl (two_cellsA wr _ _ 42) (by intro u hu;simp at hu;rcases hu with rfl | rfl <;> rfl) (by unfold maxLen;omega) (by omega) (Nat.le_trans K.out.size ((Kept.refl wr).alloc (.cells #[.string k,.string v] 42)).size) ?_;intro v' w5 o5 g5 _;obtain⟨kq,c5,rfl⟩:=N.owns_shape o5;have O5:Hid (Own w5 w.heap.size 42 2 kq (m+1) c5 (prs (out++[(k,⟨v,-1,0⟩)]))):=own_pairs (x:=(k,⟨v,-1,0⟩)) o5;have K5:Hid (Kept w w5):=grown_own (K.out.trans ((Kept.refl wr).alloc _)) (O.out.kept ((Kept.refl wr).alloc _)) g5;clear o5 g5 O K)
    go_ret
    exact⟨kq,m+1,c5,rfl,by rw[← P.out.undone (by rw[HL.out];omega)];exact O5.out,K5.out⟩
end Go.Proofs.YtncfpjccfmolgaaGreatDoor.T