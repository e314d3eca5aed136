/- Joined: VD. What is proved of the functions beneath BtreeEnds,BtreeFull,BtreeShape,BtreePlays. Conditions: those that each row names. -/
import Derived.Test.YtncfpjccfmolgaaGreatDoorZbo
import Derived.Test.YtncfpjccfmolgaaGreatDoorZbu
namespace Go.Proofs.YtncfpjccfmolgaaGreatDoor.T
open Go.ChangeShapes Go.WideShapes Go.ChangeAt Go.RowKit
open B (Pm En upd Tree got Ord con_ord got_none pgs_of su us)
open N (Kept Own blk Vl)
theorem calm42:G.Calm 42:=by unfold G.Calm D.Calm;decide
theorem tree_ord {M:Pm} {r:Int} {l:List En} (h:Tree M r l):Ord l:=by
 rcases h with⟨_,rfl,_⟩|⟨d,n,_,hT,rfl⟩
 ·exact List.Pairwise.nil
 ·exact con_ord hT.ord
structure Fs (w W:World) (t p m:Nat) (kp:Option Addr) (n kc:Nat) (l' l:List En) (r:Int):Prop where
 vw:∃ M,Vw w.heap.size W t p m r M l'
 own:Own W w.heap.size 42 2 kp n kc (prs l)
 ord:Ord l
 vals:∀ e∈l,e.2.p=-1
 low:Below w.heap.size w W
structure Fr (w W:World) (t p m:Nat) (kp:Option Addr) (n kc:Nat) (l:List En) (r:Int):Prop where
 tat:TAt W t p r
 pv:∃ M,Pv w.heap.size W p m M∧TreeW M r l
 own:Own W w.heap.size 42 2 kp n kc (prs l)
 low:Below w.heap.size w W
theorem Fs.len {w W:World} {t p m:Nat} {kp:Option Addr} {n kc:Nat} {l' l:List En} {r:Int} (h:Fs w W t p m kp n kc l' l r):l.length=n:=by
 have:=h.own.rw.len
 rw[prs_length]at this;omega
theorem Fr.len {w W:World} {t p m:Nat} {kp:Option Addr} {n kc:Nat} {l:List En} {r:Int} (h:Fr w W t p m kp n kc l r):l.length=n:=by
 have:=h.own.rw.len
 rw[prs_length]at this;omega
theorem Fs.kept {w W W':World} {t p m:Nat} {kp:Option Addr} {n kc:Nat} {l' l:List En} {r:Int} (h:Fs w W t p m kp n kc l' l r) (k:Kept W W'):Fs w W' t p m kp n kc l' l r:=by
 obtain⟨M,V⟩:=h.vw
 exact⟨⟨M,V.kept k⟩,h.own.kept k,h.ord,h.vals,h.low.trans (k.out.mono V.bw)⟩
theorem Fr.kept {w W W':World} {t p m:Nat} {kp:Option Addr} {n kc:Nat} {l:List En} {r:Int} (h:Fr w W t p m kp n kc l r) (k:Kept W W'):Fr w W' t p m kp n kc l r:=by
 obtain⟨M,V,T⟩:=h.pv
 exact⟨h.tat.kept k,⟨M,V.kept k,T⟩,h.own.kept k,h.low.trans (k.out.mono h.low.size)⟩
theorem Fs.fr {w W:World} {t p m:Nat} {kp:Option Addr} {n kc:Nat} {l:List En} {r:Int} (h:Fs w W t p m kp n kc l l r):Fr w W t p m kp n kc l r:=by
 obtain⟨M,V⟩:=h.vw
 exact⟨V.tat,⟨M,V.pv,V.readable⟩,h.own,h.low⟩
theorem Fs.start {w W:World} {t p m:Nat} (k:Kept w W) (V:Vw w.heap.size W t p m (-1) (fun _=>none) []):Fs w (W.alloc (.cells #[] 42)) t p m (some ⟨W.heap.size,0,none⟩) 0 0 [] [] (-1):=by
 have kk:=(Kept.refl W).alloc (.cells #[] 42)
 exact⟨⟨_,V.kept kk⟩,⟨rfl,.inr ⟨W.heap.size,0,#[],rfl,k.size,heap_alloc_new _ _,Nat.le_refl _,Nat.zero_le _,rfl,rfl⟩⟩,List.Pairwise.nil,(fun e h=>by cases h),(k.trans kk).out⟩
def FPost (w:World) (t p m:Nat) (kp:Option Addr) (n kc:Nat) (l l':List En) (r:Int) (e:Ending) (w':World):Prop:=
 (∃ d a b c r',e=.returned (.tuple #[.agg #[.string d,.int .i64 a,.int .i64 b],.bool c,.int .i64 0])∧Fs w w' t p m kp n kc l' l r')∨(e=.returned (.tuple #[.agg #[.string ⟨#[]⟩,.int .i64 0,.int .i64 0],.bool false,.int .i64 80])∧Fr w w' t p m kp n kc l r)
theorem Fs.puts {w W:World} {t p m:Nat} {kp:Option Addr} {n kc:Nat} {l:List En} {r:Int} (h:Fs w W t p m kp n kc l l r) (k d:ByteArray) (hk:k.size≤64) (hd:d.size≤48) :
  Calls Tryz.prog 15 #[.pointer (some ⟨t,0,none⟩),.string k,.agg #[.string d,.int .i64 (-1),.int .i64 0]] W (FPost w t p m kp n kc l (upd k [(k,⟨d,-1,0⟩)] l) r):=by
 obtain⟨M,V⟩:=h.vw
 refine (put_tree k d V.tat V.bt V.pv V.tr V.bw V.b0 V.lds hk hd).mono ?_
 rintro e w' (⟨rfl,M',r',tr,T5,V5,x5⟩|⟨rfl,M',er,T5,V5,x5⟩)
 ·exact .inl ⟨_,_,_,_,r',rfl,⟨M',V.tx x5 T5 V5 tr⟩,own_tx h.own x5 V.tat calm42 (by decide),h.ord,h.vals,h.low.trans x5.below⟩
 ·exact .inr ⟨rfl,T5,⟨M',V5,V.readable.ext er.ext⟩,own_tx h.own x5 V.tat calm42 (by decide),h.low.trans x5.below⟩
theorem Fs.list {w W:World} {t p m:Nat} {kp:Option Addr} {n kc:Nat} {l:List En} {r:Int} {k d:ByteArray} (h:Fs w W t p m kp n kc (upd k [(k,⟨d,-1,0⟩)] l) l r) (hn:n≤1000) :
  Calls Tryz.prog 16 #[.slice kp n kc,.string k,.string d] W fun e w'=>∃ p' n' c',e=.returned (.slice p' n' c')∧n'≤n+1∧Fs w w' t p m p' n' c' (upd k [(k,⟨d,-1,0⟩)] l) (upd k [(k,⟨d,-1,0⟩)] l) r:=by
 refine (ref_put h.own.rw h.ord hn k d).mono ?_
 rintro e w' ⟨p',n',c',rfl,o,kk⟩
 obtain⟨M,V⟩:=h.vw
 have hl:=h.len
 have hl2:=o.rw.len
 rw[prs_length]at hl2
 have hu:=upd_length k [(k,(⟨d,-1,0⟩:Vl))] l
 simp only[List.length_cons,List.length_nil]at hu
 refine⟨p',n',c',rfl,by omega,⟨M,V.kept kk⟩,o.mono h.low.size,tree_ord V.tr,fun e he=>?_,h.low.trans (kk.out.mono V.bw)⟩
 rcases mem_upd he with h1 | h1
 ·simp at h1;subst h1;rfl
 ·exact h.vals e h1.1
theorem Fs.unlist {w W:World} {t p m:Nat} {kp:Option Addr} {n kc:Nat} {l:List En} {r:Int} {k:ByteArray} (h:Fs w W t p m kp n kc (upd k [] l) l r) (hn:n≤1000) :
  Calls Tryz.prog 13 #[.slice kp n kc,.string k] W fun e w'=>∃ p' n' c',e=.returned (.slice p' n' c')∧n'≤n∧Fs w w' t p m p' n' c' (upd k [] l) (upd k [] l) r:=by
 refine (ref_delete h.own.rw h.ord hn k).mono ?_
 rintro e w' ⟨p',n',c',rfl,o,kk⟩
 obtain⟨M,V⟩:=h.vw
 have hl:=h.len
 have hl2:=o.rw.len
 rw[prs_length]at hl2
 have hu:=upd_length k [] l
 simp only[List.length_nil]at hu
 refine⟨p',n',c',rfl,by omega,⟨M,V.kept kk⟩,o.mono h.low.size,tree_ord V.tr,fun e he=>?_,h.low.trans (kk.out.mono V.bw)⟩
 rcases mem_upd he with h1 | h1
 ·cases h1
 ·exact h.vals e h1.1
theorem Fr.get {w W:World} {t p m:Nat} {kp:Option Addr} {n kc:Nat} {l:List En} {r:Int} (h:Fr w W t p m kp n kc l r) {j:Nat} {x:En} (hx:l[j]? = some x) :
  Calls Tryz.prog 14 #[.pointer (some ⟨t,0,none⟩),.string x.1] W fun e w'=>∃ d a b,e=.returned (.tuple #[.agg #[.string d,.int .i64 a,.int .i64 b],.bool true,.int .i64 0])∧Fr w w' t p m kp n kc l r:=by
 obtain⟨M,V,T⟩:=h.pv
 refine (get_tree x.1 h.tat V T).mono ?_
 rintro e w' ⟨rfl,kk⟩
 have hg:(got x.1 l).isSome=true:=by
  cases hgt:got x.1 l with
  | none=>exact absurd rfl (got_none hgt x (List.mem_of_getElem? hx))
  | some y=>rfl
 rw[hg]
 exact⟨_,_,_,rfl,h.kept kk⟩
theorem Fr.undo {w W:World} {t p m:Nat} {kp:Option Addr} {n kc:Nat} {l:List En} {r:Int} (h:Fr w W t p m kp n kc l r) :
  Calls Tryz.prog 20 #[.pointer (some ⟨p,0,none⟩)] W fun e w'=>e=.returned (.tuple #[])∧Pv w.heap.size w' p m (fun _=>none)∧Below w.heap.size w w':=by
 obtain⟨M,V,_⟩:=h.pv
 refine (V.undo h.low.size).mono ?_
 rintro e w' ⟨rfl,V',o⟩
 exact⟨rfl,V',h.low.trans o.below⟩
theorem lft_all {B:Nat} {W:World} {p m:Nat} (h:Pv B W p m (fun _=>none)):lft m (fun _=>none)+2=m:=by
 have h1:=lft_pages (M:=fun _=>none) (fun k x hx=>by cases hx) m h.two
 have h2:pgs_of (fun _=>none) m=0:=by
  unfold pgs_of
  clear h h1
  induction m with
  | zero=>rfl
  | succ m ih=>simp only[su,ih,us];rfl
 omega
end Go.Proofs.YtncfpjccfmolgaaGreatDoor.T