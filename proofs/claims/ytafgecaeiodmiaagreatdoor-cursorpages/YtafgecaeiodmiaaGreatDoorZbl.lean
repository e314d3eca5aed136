/- Joined. -/
import Derived.Test.YtafgecaeiodmiaaGreatDoorZbj
import Derived.Test.YtafgecaeiodmiaaGreatDoorZbk
import Derived.Deep.SlicePairs
import Derived.Deep.QuietTactic
import Derived.BigQuiet
import Derived.Deep.RegionHeld3
import Derived.Deep.DrawnRows
namespace Go.Proofs.YtafgecaeiodmiaaGreatDoor.T
open Go.ChangeShapes Go.WideShapes Go.ChangeAt Go.RowKit Go.Deep
open N (Kept)
structure Acts (W:World) (p:Option Addr) (n:Nat) where
 b:Nat
 o:Nat
 what:Nat→Int
 k:Nat→ByteArray
 v:Nat→ByteArray
 wide:Nat→Int
 max:n≤9223372036854775807
 at_:0<n→p=some ⟨b,o,none⟩
 c0:∀ j,j<n→W.cell? ⟨b,o+j*4,none⟩=some (.int .i64 (what j))
 c1:∀ j,j<n→W.cell? ⟨b,o+j*4+1,none⟩=some (.string (k j))
 c2:∀ j,j<n→W.cell? ⟨b,o+j*4+2,none⟩=some (.string (v j))
 c3:∀ j,j<n→W.cell? ⟨b,o+j*4+3,none⟩=some (.int .i64 (wide j))
theorem cells3:Tryz.prog.cellsOf 3=1:=by kernel_rfl
theorem no_spot{W:World}{a:Addr}{v:Value}(h:W.cell? (a.add 0)=some v):a=⟨a.block,a.off,none⟩:=by
 have h1:=h;obtain⟨b,off,spot⟩:=a;simp only[Addr.add,if_true]at h1;cases spot with
 | none=>rfl
 | some q=>
  unfold World.cell? at h1;split at h1
  ·simp at h1
  ·cases h1
def Acts.kept {W W':World} {p:Option Addr} {n:Nat} (h:Acts W p n) (k:Kept W W'):Acts W' p n:=⟨h.b,h.o,h.what,h.k,h.v,h.wide,h.max,h.at_,fun j hj=>k.cell (h.c0 j hj),fun j hj=>k.cell (h.c1 j hj),fun j hj=>k.cell (h.c2 j hj),fun j hj=>k.cell (h.c3 j hj)⟩
open B (Pm En upd Tree got Ord con_ord pgs_of su us)
open N (Own blk Vl)
theorem calm39:G.Calm 39:=by unfold G.Calm D.Calm;decide
theorem tree_ord{M:Pm}{r:Int}{l:List En}(h:Tree M r l):Ord l:=by
 rcases h with⟨_,rfl,_⟩|⟨d,n,_,hT,rfl⟩
 ·exact List.Pairwise.nil
 ·exact con_ord hT.ord
structure Fs (w W:World) (t p m:Nat) (kp:Option Addr) (n kc:Nat) (l' l:List En) (r:Int):Prop where
 vw:∃ M,Vw w.heap.size W t p m r M l'
 own:Own W w.heap.size 39 2 kp n kc (prs l)
 ord:Ord l
 vals:∀ e∈l,e.2.p=-1
 low:Below w.heap.size w W
structure Fr (w W:World) (t p m:Nat) (kp:Option Addr) (n kc:Nat) (l:List En) (r:Int):Prop where
 tat:TAt W t p r
 pv:∃ M,Pv w.heap.size W p m M∧TreeW M r l
 own:Own W w.heap.size 39 2 kp n kc (prs l)
 low:Below w.heap.size w W
theorem Fs.len{w W:World}{t p m:Nat}{kp:Option Addr}{n kc:Nat}{l' l:List En}{r:Int}(h:Fs w W t p m kp n kc l' l r):l.length=n:=by
 have:=h.own.rw.len;rw[prs_length]at this;omega
theorem Fr.len{w W:World}{t p m:Nat}{kp:Option Addr}{n kc:Nat}{l:List En}{r:Int}(h:Fr w W t p m kp n kc l r):l.length=n:=by
 have:=h.own.rw.len;rw[prs_length]at this;omega
theorem Fs.kept{w W W':World}{t p m:Nat}{kp:Option Addr}{n kc:Nat}{l' l:List En}{r:Int}(h:Fs w W t p m kp n kc l' l r)(k:Kept W W'):Fs w W' t p m kp n kc l' l r:=by
 obtain⟨M,V⟩:=h.vw;exact⟨⟨M,V.kept k⟩,h.own.kept k,h.ord,h.vals,h.low.trans (k.out.mono V.bw)⟩
theorem Fr.kept{w W W':World}{t p m:Nat}{kp:Option Addr}{n kc:Nat}{l:List En}{r:Int}(h:Fr w W t p m kp n kc l r)(k:Kept W W'):Fr w W' t p m kp n kc l r:=by
 obtain⟨M,V,T⟩:=h.pv;exact⟨h.tat.kept k,⟨M,V.kept k,T⟩,h.own.kept k,h.low.trans (k.out.mono h.low.size)⟩
theorem Fs.list{w W:World}{t p m:Nat}{kp:Option Addr}{n kc:Nat}{l:List En}{r:Int}{k d:ByteArray}(h:Fs w W t p m kp n kc (upd k [(k,⟨d,-1,0⟩)] l) l r)(hn:n≤1000) :
  Calls Tryz.prog 23 #[.slice kp n kc,.string k,.string d] W fun e w'=>∃ p' n' c',e=.returned (.slice p' n' c')∧n'≤n+1∧Fs w w' t p m p' n' c' (upd k [(k,⟨d,-1,0⟩)] l) (upd k [(k,⟨d,-1,0⟩)] l) r:=by
 refine (ref_put h.own.rw h.ord hn k d).mono ?_;rintro e w' ⟨p',n',c',rfl,o,kk⟩;obtain⟨M,V⟩:=h.vw;have hl:=h.len;have hl2:=o.rw.len;rw[prs_length]at hl2;have hu:=upd_length k [(k,(⟨d,-1,0⟩:Vl))] l;simp only[List.length_cons,List.length_nil]at hu;refine⟨p',n',c',rfl,by omega,⟨M,V.kept kk⟩,o.mono h.low.size,tree_ord V.tr,fun e he=>?_,h.low.trans (kk.out.mono V.bw)⟩;rcases mem_upd he with h1 | h1
 ·simp at h1;subst h1;rfl
 ·exact h.vals e h1.1
open Go.Proofs.YtafgecaeiodmiaaGreatDoor.D (Dk DiskAt CutsAt Ok)
open G (fmt_new Liv fmtd_ok format_walk open_flu sd_zeros sd_state sup11 opened begin_flu)
open B (Mk R fm con Wf)
open N (Rw Rx sl)
structure Strs (W:World) (p:Option Addr) (n:Nat) where
 b:Nat
 o:Nat
 s:Nat→ByteArray
 max:n≤9223372036854775807
 at_:0<n→p=some ⟨b,o,none⟩
 c:∀ j,j<n→W.cell? ⟨b,o+j,none⟩=some (.string (s j))
def Strs.kept {W W':World} {p:Option Addr} {n:Nat} (h:Strs W p n) (k:Kept W W'):Strs W' p n:=⟨h.b,h.o,h.s,h.max,h.at_,fun j hj=>k.cell (h.c j hj)⟩
def cut40 (s:ByteArray):ByteArray:=s.extract 0 (min s.size 40)
def vof (i:Nat):ByteArray:=Go.strOfNums [((97+i % 26:Nat):Int)]
def begl (s:Nat→ByteArray):Nat→List En
 | 0=>[]
 | i+1=>upd (cut40 (s i)) [(cut40 (s i),⟨vof i,-1,0⟩)] (begl s i)
theorem begl_len(s:Nat→ByteArray):∀ i,(begl s i).length≤i
 | 0=>Nat.le_refl _
 | i+1=>by
  have:=upd_length (cut40 (s i)) [(cut40 (s i),(⟨vof i,-1,0⟩:Vl))] (begl s i);have:=begl_len s i;simp only[List.length_cons,List.length_nil]at *;show (upd _ _ _).length≤_;omega
structure Gs (w W:World) (t p:Nat) (kp:Option Addr) (n kc:Nat) (l' l:List En):Prop where
 vw:∃ B r M,w.heap.size≤B∧Vw B W t p 600 r M l'
 rw_:Rw W 2 kp n kc (prs l)
 rx:Rx W 39 kp kc
 ord:Ord l
 low:Kept w W
theorem Gs.len{w W:World}{t p:Nat}{kp:Option Addr}{n kc:Nat}{l' l:List En}(h:Gs w W t p kp n kc l' l):l.length=n:=by
 have:=h.rw_.len;rw[prs_length]at this;omega
theorem Gs.kept{w W W':World}{t p:Nat}{kp:Option Addr}{n kc:Nat}{l' l:List En}(h:Gs w W t p kp n kc l' l)(k:Kept W W'):Gs w W' t p kp n kc l' l:=by
 obtain⟨B,r,M,hB,V⟩:=h.vw;exact⟨⟨B,r,M,hB,V.kept k⟩,k.rw h.rw_,h.rx.kept k,h.ord,h.low.trans k⟩
theorem row_tx{B t p':Nat}{W W':World}{root:Int}(x:Tx B t W W')(hT:TAt W t p' root){e:TypeId}(he:G.Calm e)(hne:e≠82){b:Nat}{cs:Array Value}{fr:Nat×Nat}(hb:W.heap[b]? = some (.cells cs e fr)):W'.heap[b]? = some (.cells cs e fr):=by
 refine x.rows b cs e fr hb he ?_;rintro rfl;rw[hT.out]at hb;injection hb with hb
 injection hb with _ hb
 exact hne hb.symm
theorem rw_tx{B t p':Nat}{W W':World}{root:Int}(x:Tx B t W W')(hT:TAt W t p' root){e:TypeId}(he:G.Calm e)(hne:e≠82){sz:Nat}{p:Option Addr}{n c:Nat}{cs:List Value}(h:Rw W sz p n c cs)(hx:Rx W e p c):Rw W' sz p n c cs:=by
 refine⟨h.len,h.le,h.cap,?_⟩;rcases h.out with h0 | ⟨b,off,rfl,f⟩
 ·exact .inl h0
 ·refine .inr ⟨b,off,rfl,fun j u hu=>?_⟩
  obtain⟨cs',fr,hb⟩:=hx.typ b off none rfl;rw[← f j u hu];exact World.cell?_of_block ((row_tx x hT he hne hb).trans hb.symm)
theorem rx_tx{B t p':Nat}{W W':World}{root:Int}(x:Tx B t W W')(hT:TAt W t p' root){e:TypeId}(he:G.Calm e)(hne:e≠82){p:Option Addr}{c:Nat}(h:Rx W e p c):Rx W' e p c:=
 ⟨(fun b off ph hp=>by obtain⟨cs,fr,hb⟩:=h.typ b off ph hp;exact⟨cs,fr,row_tx x hT he hne hb⟩),h.nil⟩
theorem Gs.put{w W:World}{t p:Nat}{kp:Option Addr}{n kc:Nat}{l:List En}(h:Gs w W t p kp n kc l l)(hl:l.length≤100)(k d:ByteArray)(hk:k.size≤64)(hd:d.size≤48) :
  Calls Tryz.prog 22 #[.pointer (some ⟨t,0,none⟩),.string k,.agg #[.string d,.int .i64 (-1),.int .i64 0]] W fun e w'=>∃ d' a b c,e=.returned (.tuple #[.agg #[.string d',.int .i64 a,.int .i64 b],.bool c,.int .i64 0])∧Gs w w' t p kp n kc (upd k [(k,⟨d,-1,0⟩)] l) l:=by
 obtain⟨B,r,M,hB,V⟩:=h.vw;refine (V.put k d hk hd (by split <;> omega)).mono ?_;rintro e w' ⟨rfl,⟨M',r',V'⟩,x⟩;exact⟨_,_,_,_,rfl,⟨B,r',M',hB,V'⟩,rw_tx x V.tat calm39 (by decide) h.rw_ h.rx,rx_tx x V.tat calm39 (by decide) h.rx,h.ord,⟨h.low.out.trans (x.below.mono hB)⟩⟩
theorem Gs.list{w W:World}{t p:Nat}{kp:Option Addr}{n kc:Nat}{l:List En}{k d:ByteArray}(h:Gs w W t p kp n kc (upd k [(k,⟨d,-1,0⟩)] l) l)(hn:n≤1000) :
  Calls Tryz.prog 23 #[.slice kp n kc,.string k,.string d] W fun e w'=>∃ p' n' c',e=.returned (.slice p' n' c')∧Gs w w' t p p' n' c' (upd k [(k,⟨d,-1,0⟩)] l) (upd k [(k,⟨d,-1,0⟩)] l):=by
 refine (ref_put h.rw_ h.ord hn k d).mono ?_;rintro e w' ⟨p',n',c',rfl,o,kk⟩;obtain⟨B,r,M,hB,V⟩:=h.vw;exact⟨p',n',c',rfl,⟨B,r,M,hB,V.kept kk⟩,o.rw,o.rx,tree_ord V.tr,h.low.trans kk⟩
theorem gs_start{w W:World}{t p:Nat}{kp:Option Addr}(hk:kp=some ⟨w.heap.size,0,none⟩)(k:Kept (w.alloc (.cells #[] 39)) W)(V:Vw (w.alloc (.cells #[] 39)).heap.size W t p 600 (-1) (fun _=>none) []):Gs w W t p kp 0 0 [] []:=by
 subst hk;have ka:Kept w (w.alloc (.cells #[] 39)):=(Kept.refl w).alloc _;refine⟨⟨_,_,_,ka.size,V⟩,⟨rfl,Nat.le_refl _,Nat.zero_le _,.inr ⟨_,_,rfl,fun j u hu=>by cases hu⟩⟩,⟨fun b off ph e=>?_,fun e=>by cases e⟩,List.Pairwise.nil,ka.trans k⟩;injection e with e
 injection e with e1 e2 e3
 subst e1;exact⟨_,_,k.block (heap_alloc_new w _)⟩
theorem cut40_size(s:ByteArray):(cut40 s).size≤40:=by
 unfold cut40;rw[ByteArray.size_extract];omega
theorem vof_size(i:Nat):(vof i).size≤48:=by
 have:(vof i).size=1:=rfl;omega
theorem vof_text(i:Nat)(w:World):(convert 64 9 (.slice (some ⟨w.heap.size,0,none⟩) 1 1)).run Tryz.prog (w.alloc (.cells #[.int .u8 (97+(i:Int) % 26)] 5))=.ok (.string (vof i)) (w.alloc (.cells #[.int .u8 (97+(i:Int) % 26)] 5)):=by
 rw[run_convert_bytes_arg _ 64 5 Tryz.underlying64 Tryz.underlying5 w.heap.size 0 1 1 [97+(i:Int) % 26] rfl (fun j hj=>?_) 9 Tryz.underlying9]
 ·unfold vof
  congr 4
 ·obtain rfl:j=0:=by omega
  rw[cell_of_row _ _ _ _ _ _ (heap_alloc_new w _)];rfl
set_option maxRecDepth 100000 in
set_option maxHeartbeats 2000000 in
theorem begun_walk{w:World}(hL:S.Lds w){pa:Option Addr}{na ca:Nat}(A:Strs w pa na) :
  Calls Tryz.prog 8 #[.slice pa na ca] w fun e w'=>∃ t p kp n kc,e=.returned (.tuple #[.pointer (some ⟨t,0,none⟩),.slice kp n kc,.bool true])∧Gs w w' t p kp n kc (begl A.s (min na 100)) (begl A.s (min na 100)):=by
 have KA:Kept w (w.alloc (.cells #[] 39)):=(Kept.refl w).alloc _;have hLA:=lds_kept hL KA;have hGS:Hid (∀ W t p,Kept (w.alloc (.cells #[] 39)) W→Vw (w.alloc (.cells #[] 39)).heap.size W t p 600 (-1) (fun _=>none) []→Gs w W t p (some ⟨w.heap.size,0,none⟩) 0 0 [] []):=fun W t p k V=>gs_start rfl k V
 obtain⟨w0,hw0⟩:∃ w0,w.alloc (.cells #[] 39)=w0:=⟨_,rfl⟩;rw[hw0]at hLA hGS KA;have h:CutsAt 0 w0 (.slice none 0 0) []:=⟨none,0,rfl,Nat.le_refl _,Nat.zero_le _,fun j hj=>by cases hj⟩;have hv:Liv (Dk.new 600 []) 7:=⟨rfl,by intro _ _ h;cases h⟩;have f1:Calls Tryz.prog 18 #[.int .i64 600,.slice none 0 0] w0 _:=D.new_walk 600 (by omega) h (Nat.zero_le _) (Nat.zero_le _) (by intro _ h;cases h);obtain⟨d1,ef,fl,ln,s0,s1,cu,fa,si⟩:=fmt_new 600 (by decide) [] (hv.mono (by omega));have ok1:Ok 5 d1:=by have:=fmtd_ok (D.new_ok 600 []);rw[ef]at this;exact this
 have lv1:Liv d1 2:=⟨fl.up,fun c r hc=>by rw[cu]at hc;cases hc⟩;have f2:∀ W b g,DiskAt w0.heap.size W b g (Dk.new 600 [])→w0.heap.size≤W.heap.size→Calls Tryz.prog 19 #[.pointer (some ⟨b,0,none⟩)] W fun e w'=>e=.returned (.int .i64 0)∧DiskAt w0.heap.size w' b g d1∧D.On w0.heap.size W w':=fun W b g k kB=>by
  have:=format_walk k kB (D.new_ok 600 []) (by omega);rw[ef]at this;exact this
 have f3:∀ W b g,DiskAt w0.heap.size W b g d1→w0.heap.size≤W.heap.size→Calls Tryz.prog 20 #[.pointer (some ⟨b,0,none⟩)] W fun e w'=>∃ p,e=.returned (.tuple #[.pointer (some ⟨p,0,none⟩),.int .i64 0])∧Pv w0.heap.size w' p 600 (fun _=>none)∧G.On w0.heap.size W w':=fun W b g k kB=>by
  refine (open_flu k kB ok1 (by omega) fl lv1 (by omega) (by omega) s0 s1 (o0:=none) (o1:=some (1,-1)) (sd_zeros 0) (sd_state sup11 rfl) (1,-1) rfl).mono ?_;rintro e w' ⟨p,rfl,a,o⟩;exact⟨p,rfl,pv_new a ln cu (by decide) (by decide),o⟩
 have f4:∀ W p,Calls Tryz.prog 21 #[.pointer (some ⟨p,0,none⟩),.int .i64 (-1)] W fun e w'=>e=.returned (.pointer (some ⟨W.heap.size,0,none⟩))∧TAt w' W.heap.size p (-1)∧Kept W w':=fun W p=>new_walk W p (-1)
 have HV:Hid (∀ W t p,TAt W t p (-1)→Pv w0.heap.size W p 600 (fun _=>none)→w0.heap.size≤t→Kept w0 W→Vw w0.heap.size W t p 600 (-1) (fun _=>none) []):=fun W t p a b c k=>⟨a,b,.inl ⟨rfl,rfl,fun _=>rfl⟩,c,k.size,hLA.pos,lds_kept hLA k⟩
 clear ef fl ln s0 s1 cu fa si ok1 lv1 hv h hLA;generalize Dk.new 600 []=dn at f1 f2;have HA:Hid (∀ W,Kept w W→∀ j,j<na→W.cell? ⟨A.b,A.o+j,none⟩=some (.string (A.s j))):=fun W k j hj=>k.cell (A.c j hj)
 have AT:Hid (0<na→pa=some ⟨A.b,A.o,none⟩):=A.at_;have AM:Hid (na≤9223372036854775807):=A.max;obtain⟨b,hb⟩:∃ b,A.b=b:=⟨_,rfl⟩;obtain⟨o,ho⟩:∃ o,A.o=o:=⟨_,rfl⟩;obtain⟨s,hs⟩:∃ s,A.s=s:=⟨_,rfl⟩;rw[hb,ho,hs]at HA;rw[hb,ho]at AT;rw[hs];clear hb ho hs A hL;go_enter Tryz.func8,Tryz.ntmps8;go_wp2_with (first
  | (go_at_call 18;(with_reducible refine f1.mono ?_);rintro e w1 ⟨bd,g,rfl,k1,K1⟩;have g2:=f2 w1 bd g k1 K1.size)
  | (go_at_call 19;(with_reducible refine g2.mono ?_);rintro e w2 ⟨rfl,k2,o2⟩;have B2:=Nat.le_trans K1.size o2.size;have g3:=f3 w2 bd g k2 B2)
  | (go_at_call 20;(with_reducible refine g3.mono ?_);rintro e w3 ⟨p,rfl,V3,o3⟩;have g4:=f4 w3 p)
  | (go_at_call 21;(with_reducible refine g4.mono ?_);rintro e w4 ⟨rfl,T4,k4⟩))
 have K4:Kept w0 w4:=⟨((K1.out.trans o2.below).trans o3.below).trans (k4.out.mono (Nat.le_trans B2 o3.size))⟩;have G4:Hid (Gs w w4 w3.heap.size p (some ⟨w.heap.size,0,none⟩) 0 0 [] []):=hGS.out _ _ _ K4 (HV.out _ _ _ T4 (V3.kept k4) (Nat.le_trans B2 o3.size) K4);clear hGS HV f1 f2 f3 f4 g2 g3 g4 k1 K1 k2 o2 B2 V3 o3 T4 k4 K4 hw0 KA;generalize w3.heap.size=t at *;go_loopg [5,7,10] 100 (fun gg lv ev iv wx=>∃ (i n:Nat) (kp:Option Addr) (kc:Nat),lv=.slice kp n kc∧ev=.int .i64 0∧iv=.int .i64 (i:Nat)∧Hid (gg=100-i)∧i≤na∧i≤100∧n≤i∧Hid (Gs w wx t p kp n kc (begl s i) (begl s i)));case atStart=>exact⟨0,0,_,_,rfl,rfl,rfl,rfl,Nat.zero_le _,by decide,Nat.le_refl _,G4⟩
 case round=>
  obtain⟨i,n,kp,kc,rfl,rfl,rfl,hg,hin,hi1,hni,G⟩:=hrel;clear G4;by_cases h1:(i:Int)<(na:Int)
  ·by_cases h2:(i:Int)<100
   ·obtain rfl:=AT.out (by omega)
    have c0:=HA.out wr G.out.low i (by omega);obtain⟨mn,hmn,hm1,hm2⟩:∃ mn:Nat,min ((s i).size:Int) 40=(mn:Int)∧(mn:Int)≤((s i).size:Int)∧mn≤40:=⟨min (s i).size 40,by omega,by omega,by omega⟩;have hm0:(0:Int)≤(mn:Int):=by omega
    have HC:Hid ((s i).extract 0 mn=cut40 (s i)):=by unfold cut40;show _=_;congr 1;omega
    go_upto_region 10 with fail
    go_cut [11] from 47 to 58 (fun kv wx=>kv=.string (cut40 (s i))∧Kept wr wx)
    case first=>
     have HSA:Hid (∀ W,Kept wr W→W.cell? ⟨b,o+i,none⟩=some (.string (s i))):=fun W hW=>hW.cell c0
     have KD:Kept wr wr.drew:=(Kept.refl wr).drew;clear c0 G;go_region_held3 (fun W=>W.cell? ⟨b,o+i,none⟩=some (.string (s i))) (exact HSA.out _ (by assumption)) (fail);all_goals (go_wp2_with fail)
     all_goals go_meet
     all_goals exact⟨by rw[HC.out],KD⟩
    case rest=>
     obtain⟨rfl,k1⟩:=hcut;have k2:Kept wc (wc.alloc (.cells #[.int .u8 (97+(i:Int) % 26)] 5)):=(Kept.refl wc).alloc _;have tx:=vof_text i wc;have P1:=(G.out.kept (k1.trans k2)).put (by have:=begl_len s i;omega) (cut40 (s i)) (vof i) (by have:=cut40_size (s i);omega) (vof_size i);clear G c0 hmn hm1 hm2 hm0 HC k1 k2;go_wp2_with (first
      | (go_at_call 22;(with_reducible refine P1.mono ?_);rintro e w6 ⟨x,a,b',c',rfl,F6⟩;have P2:=F6.list (by omega);clear P1 F6)
      | (go_at_call 23;(with_reducible refine P2.mono ?_);rintro e w7 ⟨kp7,n7,kc7,rfl,F7⟩;have F8:Hid (Gs w w7 t p kp7 n7 kc7 (begl s (i+1)) (begl s (i+1))):=F7;clear F7 P2))
     go_roundg (100-(i+1));case measure=>rw[hg.out];omega
     case rel=>exact⟨i+1,n7,kp7,kc7,rfl,rfl,by go_num,rfl,by omega,by omega,(by have:=F8.out.len;have:=begl_len s (i+1);omega),F8⟩
   ·have hmin:min na 100=i:=by omega
    have G5:=G.out;clear G;go_wp2;go_ret3;exact⟨t,p,kp,n,kc,rfl,G5⟩
  ·have hmin:min na 100=i:=by omega
   have G5:=G.out;clear G;go_wp2;go_ret3;exact⟨t,p,kp,n,kc,rfl,G5⟩
end Go.Proofs.YtafgecaeiodmiaaGreatDoor.T