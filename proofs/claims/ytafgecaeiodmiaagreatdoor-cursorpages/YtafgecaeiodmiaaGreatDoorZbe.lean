/- Joined. -/
import Derived.Test.YtafgecaeiodmiaaGreatDoorZba
namespace Go.Proofs.YtafgecaeiodmiaaGreatDoor.N
open Go.ChangeShapes Go.WideShapes Go.ChangeAt Go.RowKit
structure Og (b:Nat) (w w':World):Prop where
 out:w.grownBy w' (some b)
theorem Og.trans{B:Nat}{a b c:World}(h:Og B a b)(k:Og B b c):Og B a c:=
 ⟨k.out.os.trans h.out.os,k.out.tape.trans h.out.tape,k.out.output.trans h.out.output,Nat.le_trans h.out.size k.out.size,fun i hi hne=>(k.out.block i (Nat.lt_of_lt_of_le hi h.out.size) hne).trans (h.out.block i hi hne)⟩
theorem Og.set(b j:Nat)(w:World)(v:Value):Og b w (w.setCell ⟨b,j,none⟩ v):=⟨grown_set w ⟨b,j,none⟩ v⟩
theorem Kept.og{w w':World}(h:Kept w w')(b:Nat):Og b w w':=⟨h.grown _⟩
theorem C4.og{w w':World}{c b:Nat}{t:TypeId}{a0 a1 a2 a3:Value}(k:C4 w b t a0 a1 a2 a3)(h:Og c w w')(hb:b≠c):C4 w' b t a0 a1 a2 a3:=k.grown h.out (fun e=>hb (by injection e))
theorem C3.og{w w':World}{c b:Nat}{t:TypeId}{a0 a1 a2:Value}(k:C3 w b t a0 a1 a2)(h:Og c w w')(hb:b≠c):C3 w' b t a0 a1 a2:=k.grown h.out (fun e=>hb (by injection e))
theorem Og.own{w w':World}{c:Nat}(h:Og c w w'){B:Nat}{e:TypeId}{sz:Nat}{p:Option Addr}{n cc:Nat}{cs:List Value}(k:Own w B e sz p n cc cs)(hb:c<B):Own w' B e sz p n cc cs:=by
 refine⟨k.out.kept h.out ?_⟩;cases hq:(Value.slice p n cc).ownBlock with
 | none=>exact .inl rfl
 | some g=>exact .inr (fun he=>by have:=(k.out.lt g hq).1;injection he with he;omega)
theorem Og.kept{w W W':World}{c:Nat}(h:Og c W W')(k:Kept w W)(hb:w.heap.size≤c):Kept w W':=⟨k.out.grown h.out k.size (fun j hj=>by injection hj with hj;omega)⟩
set_option maxRecDepth 100000 in
theorem rnum2(n:Nat)(hn:n<18446744073709551616)(t:List Nat)(ht:t.length≤100000)(most:Nat)(hm:n≤most){b:Nat}{w:World}(k:Rd w b (bs (numL n++t)) 0) :
  Calls Tryz.prog 110 #[.pointer (some ⟨b,0,none⟩),.int .u64 (most:Nat)] w fun e w'=>e=.returned (.int .u64 (n:Nat))∧Rd w' b (bs t) 0∧Og b w w':=by
 have h10:=numL_ten n hn;have c0:=k.c0;have f0:=k.f0 0;have e13:=err_walk k;have e33:=first_walk n hn t ht w;have hx:=bs_rest (numL n) t;have hsz:(bs (numL n++t)).size=(numL n).length+t.length:=by rw[bs_size];simp
 have k2:=k.set0 (bs t);have o2:Og b w (w.setCell ⟨b,0,none⟩ (.string (bs t))):=Og.set _ _ _ _;have K2:Hid (Rd (w.setCell ⟨b,0,none⟩ (.string (bs t))) b (bs t) 0):=k2;generalize bs (numL n++t)=s at *;generalize (numL n).length=L at *;have hls:L≤s.size:=by omega
 clear k2 hsz k;go_enter Tryz.func110,Tryz.ntmps110;go_wp2_with (first
  | (go_at_call 140;refine e13.mono ?_;rintro e w' ⟨rfl,rfl⟩)
  | (go_at_call 141;refine e33.mono ?_;rintro e w' ⟨rfl,rfl⟩))
 go_ret;exact⟨rfl,K2.out,o2⟩
set_option maxRecDepth 100000 in
theorem take2(l t:List Nat)(x:Int){b:Nat}{w:World}(k:Rd w b (bs (l++t)) x) :
  Calls Tryz.prog 139 #[.pointer (some ⟨b,0,none⟩),.int .i64 (l.length:Nat)] w fun e w'=>e=.returned (.string (bs l))∧Rd w' b (bs t) x∧Og b w w':=by
 have c0:=k.c0;have f0:=k.f0 0;have h1:=bs_front l t;have hx:=bs_rest l t;have hsz:(bs (l++t)).size=l.length+t.length:=by rw[bs_size];simp
 have k2:=k.set0 (bs t);have o2:Og b w (w.setCell ⟨b,0,none⟩ (.string (bs t))):=Og.set _ _ _ _;have K2:Hid (Rd (w.setCell ⟨b,0,none⟩ (.string (bs t))) b (bs t) x):=k2;generalize bs (l++t)=s at *;have hls:l.length≤s.size:=by omega
 clear k2 k hsz;generalize l.length=L at *;go_enter Tryz.func139,Tryz.ntmps139;go_wp2;go_ret;exact⟨rfl,K2.out,o2⟩
set_option maxRecDepth 100000 in
theorem rtext2_64(l t:List Nat)(hl:l.length≤64)(ht:t.length≤20000){b:Nat}{w:World}(k:Rd w b (bs (numL l.length++(l++t))) 0) :
  Calls Tryz.prog 128 #[.pointer (some ⟨b,0,none⟩),.int .i64 64] w fun e w'=>e=.returned (.string (bs l))∧Rd w' b (bs t) 0∧Og b w w':=by
 have h11:=rnum2 l.length (by omega) (l++t) (by simp;omega) 64 hl k;have h21:=@take2 l t 0 b;generalize bs (l++t)=s2 at *;generalize l.length=L at *;go_enter Tryz.func128,Tryz.ntmps128;go_wp2_with (first
  | (go_at_call 110;refine h11.mono ?_;rintro e w1 ⟨rfl,k1,o1⟩)
  | (go_at_call 139;refine (h21 k1).mono ?_;rintro e w2 ⟨rfl,k2,o2⟩))
 go_ret;exact⟨rfl,k2,o1.trans o2⟩
set_option maxRecDepth 100000 in
theorem rtext2_48(l t:List Nat)(hl:l.length≤48)(ht:t.length≤20000){b:Nat}{w:World}(k:Rd w b (bs (numL l.length++(l++t))) 0) :
  Calls Tryz.prog 128 #[.pointer (some ⟨b,0,none⟩),.int .i64 48] w fun e w'=>e=.returned (.string (bs l))∧Rd w' b (bs t) 0∧Og b w w':=by
 have h11:=rnum2 l.length (by omega) (l++t) (by simp;omega) 48 hl k;have h21:=@take2 l t 0 b;generalize bs (l++t)=s2 at *;generalize l.length=L at *;go_enter Tryz.func128,Tryz.ntmps128;go_wp2_with (first
  | (go_at_call 110;refine h11.mono ?_;rintro e w1 ⟨rfl,k1,o1⟩)
  | (go_at_call 139;refine (h21 k1).mono ?_;rintro e w2 ⟨rfl,k2,o2⟩))
 go_ret;exact⟨rfl,k2,o1.trans o2⟩
theorem rt64(s:ByteArray)(hs:s.size≤64)(t:List Nat)(ht:t.length≤20000){b:Nat}{w:World}(k:Rd w b (bs (keyN s++t)) 0) :
  Calls Tryz.prog 128 #[.pointer (some ⟨b,0,none⟩),.int .i64 64] w fun e w'=>e=.returned (.string s)∧Rd w' b (bs t) 0∧Og b w w':=by
 have a:=rtext2_64 (un s) t (by rw[un_length];exact hs) ht (b:=b) (w:=w) (by rw[un_length];unfold keyN at k;rwa [List.append_assoc]at k);rwa [bs_un]at a
theorem rt48(s:ByteArray)(hs:s.size≤48)(t:List Nat)(ht:t.length≤20000){b:Nat}{w:World}(k:Rd w b (bs (keyN s++t)) 0) :
  Calls Tryz.prog 128 #[.pointer (some ⟨b,0,none⟩),.int .i64 48] w fun e w'=>e=.returned (.string s)∧Rd w' b (bs t) 0∧Og b w w':=by
 have a:=rtext2_48 (un s) t (by rw[un_length];exact hs) ht (b:=b) (w:=w) (by rw[un_length];unfold keyN at k;rwa [List.append_assoc]at k);rwa [bs_un]at a
set_option maxHeartbeats 1000000 in
set_option maxRecDepth 100000 in
theorem value_walk(v:Vl)(hv:Okv v)(t:List Nat)(ht:t.length≤18000){b:Nat}{w:World}(k:Rd w b (bs (valN v++t)) 0) :
    Calls Tryz.prog 129 #[.pointer (some ⟨b,0,none⟩)] w fun e w'=>e=.returned (.agg #[.string v.d,.int .i64 v.p,.int .i64 v.l])∧Rd w' b (bs t) 0∧Og b w w':=by
  have hbl:=k.lt;have k0:=((Kept.refl w).alloc (.cells #[.string ⟨#[]⟩,.int .i64 0,.int .i64 0] 35)).rd k;have R0:=C3.alloc w 35 (.string ⟨#[]⟩) (.int .i64 0) (.int .i64 0);have o0:=((Kept.refl w).alloc (.cells #[.string ⟨#[]⟩,.int .i64 0,.int .i64 0] 35)).og b;obtain⟨d,p,ln⟩:=v;rcases hv with⟨h1,h2,h3⟩|⟨h1,p',l',h2,h3,h4,h5,h6⟩
  · simp only at h1 h2 h3
    subst h1;subst h2;have e2:valN ⟨d,-1,0⟩++t=numL 0++(keyN d++t):=by unfold valN keyN;rw[if_pos (by show (-1:Int)<0;decide),List.append_assoc]
    rw[e2]at k0;have z:=keyN_length d (by omega);have a1:=rnum2 0 (by decide) (keyN d++t) (by rw[List.length_append];omega) 1 (by decide) k0;have a2:=fun W=>@rt48 d h3 t (by omega) b W
    have hne:¬ (w.heap.size=b):=by omega
    have A1:Calls Tryz.prog 110 #[.pointer (some ⟨b,0,none⟩),.int .u64 1] (w.alloc (.cells #[.string ⟨#[]⟩,.int .i64 0,.int .i64 0] 35)) fun e w'=>e=.returned (.int .u64 0)∧Rd w' b (bs (keyN d++t)) 0∧Og b (w.alloc (.cells #[.string ⟨#[]⟩,.int .i64 0,.int .i64 0] 35)) w':=a1
    have A2:Hid (∀ W,Rd W b (bs (keyN d++t)) 0→Calls Tryz.prog 128 #[.pointer (some ⟨b,0,none⟩),.int .i64 48] W fun e w'=>e=.returned (.string d)∧Rd w' b (bs t) 0∧Og b W w'):=a2;clear a1 a2 k0 k e2;go_enter Tryz.func129,Tryz.ntmps129;go_wp2_with (first
      | (go_at_call 110
         (with_reducible refine A1.mono ?_)
         rintro e v1 ⟨rfl,r1,o1⟩)
      | (go_at_call 128
         (with_reducible refine (A2.out _ r1).mono ?_)
         rintro e v2 ⟨rfl,r2,o2⟩
         have R2:=R0.og (o1.trans o2) hne
         obtain⟨⟨g0,f0⟩,⟨g1,f1⟩,⟨g2,f2⟩,hfin⟩:=ready3 R2.out (.string d) (.int .i64 (-1)) (.int .i64 0)))
    have q1:Rd (((v2.setCell ⟨w.heap.size,0,none⟩ (.string d)).setCell ⟨w.heap.size,1,none⟩ (.int .i64 (-1))).setCell ⟨w.heap.size,2,none⟩ (.int .i64 0)) b (bs t) 0:=⟨(others3 v2 (by omega) _ _ _).trans r2.out⟩;generalize hW:(((v2.setCell ⟨w.heap.size,0,none⟩ (.string d)).setCell ⟨w.heap.size,1,none⟩ (.int .i64 (-1))).setCell ⟨w.heap.size,2,none⟩ (.int .i64 0))=WF at hfin q1 ⊢;refine bodyPost_ret (v:=.agg #[.string d,.int .i64 (-1),.int .i64 0]) ?_ rfl ⟨rfl,q1,?_⟩
    · exact results_cell_row (p:=2) rfl _ _ w.heap.size 35 #[.string d,.int .i64 (-1),.int .i64 0] (0,0) _ rfl hfin Tryz.underlying35 rfl size35
    · have o12:=o1.trans o2
      rw[← hW];refine⟨o12.out.os,o12.out.tape,o12.out.output,?_,?_⟩
      · rw[size_set,size_set,size_set];exact ((o0.trans o12)).out.size
      · intro j hj hne2
        rw[others3 v2 (by omega) _ _ _];exact (o0.trans o12).out.block j hj hne2
  · simp only at h1 h2 h4
    subst h1;subst h2;subst h4;have e2:valN ⟨⟨#[]⟩,(p':Int),(l':Int)⟩++t=numL 1++(numL p'++(numL l'++t)):=by unfold valN;rw[if_neg (by show ¬ (p':Int)<0;omega)];simp
    rw[e2]at k0;have z1:=num_small p' (by omega);have z2:=num_small l' (by omega);have a1:=rnum2 1 (by decide) (numL p'++(numL l'++t)) (by simp;omega) 1 (by decide) k0;have a2:=fun W=>@rnum2 p' (by omega) (numL l'++t) (by simp;omega) 16383 (by omega) b W
    have a3:=fun W=>@rnum2 l' (by omega) t (by omega) 65536 (by omega) b W
    have hne:¬ (w.heap.size=b):=by omega
    have u1:IntKind.i64.wrap (p':Int)=(p':Int):=by rw[IntKind.wrap_i64];omega
    have u2:IntKind.i64.wrap (l':Int)=(l':Int):=by rw[IntKind.wrap_i64];omega
    have A1:Calls Tryz.prog 110 #[.pointer (some ⟨b,0,none⟩),.int .u64 1] (w.alloc (.cells #[.string ⟨#[]⟩,.int .i64 0,.int .i64 0] 35)) fun e w'=>e=.returned (.int .u64 1)∧Rd w' b (bs (numL p'++(numL l'++t))) 0∧Og b (w.alloc (.cells #[.string ⟨#[]⟩,.int .i64 0,.int .i64 0] 35)) w':=a1
    have A2:Hid (∀ W,Rd W b (bs (numL p'++(numL l'++t))) 0→Calls Tryz.prog 110 #[.pointer (some ⟨b,0,none⟩),.int .u64 16383] W fun e w'=>e=.returned (.int .u64 (p':Nat))∧Rd w' b (bs (numL l'++t)) 0∧Og b W w'):=a2;have A3:Hid (∀ W,Rd W b (bs (numL l'++t)) 0→Calls Tryz.prog 110 #[.pointer (some ⟨b,0,none⟩),.int .u64 65536] W fun e w'=>e=.returned (.int .u64 (l':Nat))∧Rd w' b (bs t) 0∧Og b W w'):=a3;clear a1 a2 a3 k0 k e2;go_enter Tryz.func129,Tryz.ntmps129;go_wp2_with (first
      | (go_at_call 110
         (with_reducible refine A1.mono ?_)
         rintro e v1 ⟨rfl,r1,o1⟩)
      | (go_at_call 110
         (with_reducible refine (A2.out _ r1).mono ?_)
         rintro e v2 ⟨rfl,r2,o2⟩)
      | (go_at_call 110
         (with_reducible refine (A3.out _ r2).mono ?_)
         rintro e v3 ⟨rfl,r3,o3⟩
         have R2:=R0.og ((o1.trans o2).trans o3) hne
         obtain⟨⟨g0,f0⟩,⟨g1,f1⟩,⟨g2,f2⟩,hfin⟩:=ready3 R2.out (.string ⟨#[]⟩) (.int .i64 (p':Nat)) (.int .i64 (l':Nat))))
    have q1:Rd (((v3.setCell ⟨w.heap.size,0,none⟩ (.string ⟨#[]⟩)).setCell ⟨w.heap.size,1,none⟩ (.int .i64 (p':Nat))).setCell ⟨w.heap.size,2,none⟩ (.int .i64 (l':Nat))) b (bs t) 0:=⟨(others3 v3 (by omega) _ _ _).trans r3.out⟩;generalize hW:(((v3.setCell ⟨w.heap.size,0,none⟩ (.string ⟨#[]⟩)).setCell ⟨w.heap.size,1,none⟩ (.int .i64 (p':Nat))).setCell ⟨w.heap.size,2,none⟩ (.int .i64 (l':Nat)))=WF at hfin q1 ⊢;refine bodyPost_ret (v:=.agg #[.string ⟨#[]⟩,.int .i64 (p':Nat),.int .i64 (l':Nat)]) ?_ rfl ⟨rfl,q1,?_⟩
    · exact results_cell_row (p:=2) rfl _ _ w.heap.size 35 #[.string ⟨#[]⟩,.int .i64 (p':Nat),.int .i64 (l':Nat)] (0,0) _ rfl hfin Tryz.underlying35 rfl size35
    · have o12:=(o1.trans o2).trans o3
      rw[← hW];refine⟨o12.out.os,o12.out.tape,o12.out.output,?_,?_⟩
      · rw[size_set,size_set,size_set];exact ((o0.trans o12)).out.size
      · intro j hj hne2
        rw[others3 v3 (by omega) _ _ _];exact (o0.trans o12).out.block j hj hne2
def Nd.tail (x:Nd):Nat→Nat→List Nat
 | _,0=>[]
 | i,k+1=>x.item i++x.tail (i+1) k
theorem tail_items(x:Nd):∀ k i,x.items i++x.tail i k=x.items (i+k)
 | 0,i=>by simp[Nd.tail]
 | k+1,i=>by
  rw[Nd.tail,← List.append_assoc,show x.items i++x.item i=x.items (i+1) from rfl,tail_items x k (i+1)];congr 1;omega
theorem tail_length{x:Nd}(g:Good x):∀ k i,i+k≤x.ks.length→(x.tail i k).length≤k*115
 | 0,i,_=>by simp[Nd.tail]
 | k+1,i,h=>by
  have a:=tail_length g k (i+1) (by omega);have b:=item_length g i (by omega);rw[Nd.tail,List.length_append];omega
theorem one_cellA(w:World)(u:Value)(t:TypeId):∀ (j:Nat) (v:Value),[u][j]? = some v→(w.alloc (.cells #[u] t)).cell? ((⟨w.heap.size,0,none⟩:Addr).add j)=some v:=one_cell w u t
theorem three_cellsA(w:World)(a b c:Value)(t:TypeId):∀ (j:Nat) (v:Value),[a,b,c][j]? = some v→(w.alloc (.cells #[a,b,c] t)).cell? ((⟨w.heap.size,0,none⟩:Addr).add j)=some v:=three_cells w a b c t
theorem kcl_more{ks:List ByteArray}{i:Nat}{k:ByteArray}(h:ks[i]? = some k):kcl (ks.take (i+1))=kcl (ks.take i)++[.string k]:=by
 rw[List.take_add_one,h,kcl_append];rfl
theorem icl_more{is:List Int}{i:Nat}{k:Int}(h:is[i]? = some k):icl (is.take (i+1))=icl (is.take i)++[.int .i64 k]:=by
 rw[List.take_add_one,h,icl_append];rfl
structure RS (w wx:World) (b:Nat) (l:Bool) (kp:Option Addr) (nk kc:Nat) (ks:List ByteArray) (vp:Option Addr) (nv vc:Nat) (vs:List Vl) (ip:Option Addr) (ni ic:Nat) (is:List Int) (rest:List Nat):Prop where
 R:C4 wx w.heap.size 71 (.bool false) (.slice none 0 0) (.slice none 0 0) (.slice none 0 0)
 X:C4 wx (w.heap.size+1) 71 (.bool l) (.slice kp nk kc) (.slice vp nv vc) (.slice ip ni ic)
 K:Own wx (w.heap.size+1+1) 9 1 kp nk kc (kcl ks)
 V:Own wx (w.heap.size+1+1) 35 3 vp nv vc (vcl vs)
 I:Own wx (w.heap.size+1+1) 3 1 ip ni ic (icl is)
 r:Rd wx b (bs rest) 0
 o:Og b w wx
 hb:b<w.heap.size
theorem RS.call{w wx W:World}{b:Nat}{l:Bool}{kp:Option Addr}{nk kc:Nat}{ks:List ByteArray}{vp:Option Addr}{nv vc:Nat}{vs:List Vl}{ip:Option Addr}{ni ic:Nat}{is:List Int}{rest rest':List Nat}(s:RS w wx b l kp nk kc ks vp nv vc vs ip ni ic is rest)(o:Og b wx W)(r:Rd W b (bs rest') 0):RS w W b l kp nk kc ks vp nv vc vs ip ni ic is rest':=
 have h:=s.hb
 ⟨s.R.og o (by omega),s.X.og o (by omega),o.own s.K (by omega),o.own s.V (by omega),o.own s.I (by omega),r,s.o.trans o,s.hb⟩
theorem RS.kept{w wx W:World}{b:Nat}{l:Bool}{kp:Option Addr}{nk kc:Nat}{ks:List ByteArray}{vp:Option Addr}{nv vc:Nat}{vs:List Vl}{ip:Option Addr}{ni ic:Nat}{is:List Int}{rest:List Nat}(s:RS w wx b l kp nk kc ks vp nv vc vs ip ni ic is rest)(k:Kept wx W):RS w W b l kp nk kc ks vp nv vc vs ip ni ic is rest:=s.call (k.og b) (k.rd s.r)
theorem results_two{P:Program}{fn:Func}{p u:Tmp}{ty:TypeId}(h:fn.results=#[.cell p ty,.tmp u])(tmps:Array Value)(w:World)(g:Nat)(t:TypeId)(cs:Array Value)(fr:Nat×Nat)(d:TypeDesc)(hp:tmps.getD p undef=.pointer (some ⟨g,0,none⟩))(hg:w.heap[g]? = some (.cells cs t fr))(hu:P.underlying ty=some d)(hd:(match d with | .struct _ | .array _ _=>true | _=>false)=true)(hi:(P.info? ty).map (·.size)=some cs.size) :
    (results fn tmps).run P w=.ok (.tuple #[.agg cs,tmps.getD u undef]) w:=by
  rw[results_cell_tmp h,hp];simp[asAddr,run_loadVar_row w g t ty cs fr d hg hu hd hi]
theorem Rd.far{w:World}{b:Nat}{s:ByteArray}{e:Int}(k:Rd w b s e)(a:Addr)(v:Value)(h:b≠a.block):Rd (w.setCell a v) b s e:=⟨(heap_setCell_other w a b v h).trans k.out⟩
theorem RS.putK{w wx W:World}{b:Nat}{l:Bool}{kp:Option Addr}{nk kc:Nat}{ks:List ByteArray}{vp:Option Addr}{nv vc:Nat}{vs:List Vl}{ip:Option Addr}{ni ic:Nat}{is:List Int}{rest:List Nat}(s:RS w wx b l kp nk kc ks vp nv vc vs ip ni ic is rest)(g:wx.grownBy W (blk kp)){q:Option Addr}{m c:Nat}{zs:List ByteArray}(o:Own W (w.heap.size+1+1) 9 1 q m c (kcl zs)) :
  C4 W (w.heap.size+1) 71 (.bool l) (.slice kp nk kc) (.slice vp nv vc) (.slice ip ni ic)∧RS w (W.setCell ⟨w.heap.size+1,1,none⟩ (.slice q m c)) b l q m c zs vp nv vc vs ip ni ic is rest:=by
 have hb:=s.hb;have x1:=s.X.grown g (s.X.own_ne s.K (by decide));have own:some b≠blk kp:=s.K.blk_ne (.inl (by omega));have own2:some w.heap.size≠blk kp:=s.K.blk_ne (.inl (by omega));have r1:Rd W b (bs rest) 0:=⟨(g.block b s.r.lt own).trans s.r.out⟩;refine⟨x1,(s.R.grown g own2).far _ _ (by show w.heap.size≠w.heap.size+1;omega),x1.set1 _,o.farT ⟨w.heap.size+1,1,none⟩ _ (x1.own_ne o (by decide)),(s.V.grown s.K (by decide) g).farT ⟨w.heap.size+1,1,none⟩ _ (x1.own_ne (s.V.grown s.K (by decide) g) (by decide)),(s.I.grown s.K (by decide) g).farT ⟨w.heap.size+1,1,none⟩ _ (x1.own_ne (s.I.grown s.K (by decide) g) (by decide)),r1.far ⟨w.heap.size+1,1,none⟩ _ (by show b≠w.heap.size+1;omega),?_,hb⟩;have os:=s.o.out;refine⟨g.os.trans os.os,g.tape.trans os.tape,g.output.trans os.output,by rw[size_set];exact Nat.le_trans os.size g.size,fun i hi hne=>?_⟩;rw[heap_setCell_other _ _ _ _ (by show i≠w.heap.size+1;omega),g.block i (Nat.lt_of_lt_of_le hi os.size) (s.K.blk_ne (.inl (by omega)))];exact os.block i hi hne
theorem RS.putV{w wx W:World}{b:Nat}{l:Bool}{kp:Option Addr}{nk kc:Nat}{ks:List ByteArray}{vp:Option Addr}{nv vc:Nat}{vs:List Vl}{ip:Option Addr}{ni ic:Nat}{is:List Int}{rest:List Nat}(s:RS w wx b l kp nk kc ks vp nv vc vs ip ni ic is rest)(g:wx.grownBy W (blk vp)){q:Option Addr}{m c:Nat}{zs:List Vl}(o:Own W (w.heap.size+1+1) 35 3 q m c (vcl zs)) :
  C4 W (w.heap.size+1) 71 (.bool l) (.slice kp nk kc) (.slice vp nv vc) (.slice ip ni ic)∧RS w (W.setCell ⟨w.heap.size+1,2,none⟩ (.slice q m c)) b l kp nk kc ks q m c zs ip ni ic is rest:=by
 have hb:=s.hb;have x1:=s.X.grown g (s.X.own_ne s.V (by decide));have own:some b≠blk vp:=s.V.blk_ne (.inl (by omega));have own2:some w.heap.size≠blk vp:=s.V.blk_ne (.inl (by omega));have r1:Rd W b (bs rest) 0:=⟨(g.block b s.r.lt own).trans s.r.out⟩;refine⟨x1,(s.R.grown g own2).far _ _ (by show w.heap.size≠w.heap.size+1;omega),x1.set2 _,(s.K.grown s.V (by decide) g).farT ⟨w.heap.size+1,2,none⟩ _ (x1.own_ne (s.K.grown s.V (by decide) g) (by decide)),o.farT ⟨w.heap.size+1,2,none⟩ _ (x1.own_ne o (by decide)),(s.I.grown s.V (by decide) g).farT ⟨w.heap.size+1,2,none⟩ _ (x1.own_ne (s.I.grown s.V (by decide) g) (by decide)),r1.far ⟨w.heap.size+1,2,none⟩ _ (by show b≠w.heap.size+1;omega),?_,hb⟩;have os:=s.o.out;refine⟨g.os.trans os.os,g.tape.trans os.tape,g.output.trans os.output,by rw[size_set];exact Nat.le_trans os.size g.size,fun i hi hne=>?_⟩;rw[heap_setCell_other _ _ _ _ (by show i≠w.heap.size+1;omega),g.block i (Nat.lt_of_lt_of_le hi os.size) (s.V.blk_ne (.inl (by omega)))];exact os.block i hi hne
theorem RS.putI{w wx W:World}{b:Nat}{l:Bool}{kp:Option Addr}{nk kc:Nat}{ks:List ByteArray}{vp:Option Addr}{nv vc:Nat}{vs:List Vl}{ip:Option Addr}{ni ic:Nat}{is:List Int}{rest:List Nat}(s:RS w wx b l kp nk kc ks vp nv vc vs ip ni ic is rest)(g:wx.grownBy W (blk ip)){q:Option Addr}{m c:Nat}{zs:List Int}(o:Own W (w.heap.size+1+1) 3 1 q m c (icl zs)) :
  C4 W (w.heap.size+1) 71 (.bool l) (.slice kp nk kc) (.slice vp nv vc) (.slice ip ni ic)∧RS w (W.setCell ⟨w.heap.size+1,3,none⟩ (.slice q m c)) b l kp nk kc ks vp nv vc vs q m c zs rest:=by
 have hb:=s.hb;have x1:=s.X.grown g (s.X.own_ne s.I (by decide));have own:some b≠blk ip:=s.I.blk_ne (.inl (by omega));have own2:some w.heap.size≠blk ip:=s.I.blk_ne (.inl (by omega));have r1:Rd W b (bs rest) 0:=⟨(g.block b s.r.lt own).trans s.r.out⟩;refine⟨x1,(s.R.grown g own2).far _ _ (by show w.heap.size≠w.heap.size+1;omega),x1.set3 _,(s.K.grown s.I (by decide) g).farT ⟨w.heap.size+1,3,none⟩ _ (x1.own_ne (s.K.grown s.I (by decide) g) (by decide)),(s.V.grown s.I (by decide) g).farT ⟨w.heap.size+1,3,none⟩ _ (x1.own_ne (s.V.grown s.I (by decide) g) (by decide)),o.farT ⟨w.heap.size+1,3,none⟩ _ (x1.own_ne o (by decide)),r1.far ⟨w.heap.size+1,3,none⟩ _ (by show b≠w.heap.size+1;omega),?_,hb⟩;have os:=s.o.out;refine⟨g.os.trans os.os,g.tape.trans os.tape,g.output.trans os.output,by rw[size_set];exact Nat.le_trans os.size g.size,fun i hi hne=>?_⟩;rw[heap_setCell_other _ _ _ _ (by show i≠w.heap.size+1;omega),g.block i (Nat.lt_of_lt_of_le hi os.size) (s.I.blk_ne (.inl (by omega)))];exact os.block i hi hne
set_option maxHeartbeats 4000000 in
set_option maxRecDepth 100000 in
theorem read_true{w:World}{b:Nat}{x:Nd}(hr:Rd w b (bs x.put) 0)(g:Good x)(hl:x.leaf=true)(h60:x.ks.length≤120) :
    Calls Tryz.prog 101 #[.pointer (some ⟨b,0,none⟩),.bool true] w fun e w'=>∃ kp nk kc vp nv vc ip ni ic,e=.returned (.tuple #[.agg #[.bool true,.slice kp nk kc,.slice vp nv vc,.slice ip ni ic],.int .i64 0])∧NV w' true kp nk kc vp nv vc ip ni ic x∧Og b w w'∧Nw w.heap.size ip:=by
  obtain⟨i9,hi9,hz90,hz91,hz92⟩:=info_parts info9;obtain⟨i49,hi49,hz490,hz491,hz492⟩:=info_parts info35;have hf:=h60;have hbl:=hr.lt;obtain⟨nk,hnk⟩:∃ nk,x.ks.length=nk:=⟨_,rfl⟩;rw[hnk]at hf;have hvl:x.vs.length=nk:=by rw[(g.lv hl).1,hnk]
  have hput:x.put=numL nk++x.tail 0 nk:=by
    have a:=tail_items x nk 0;rw[Nat.zero_add]at a;unfold Nd.put Nd.head;rw[hnk,if_pos hl,← a];simp[Nd.items]
  rw[hput]at hr;have htl:=tail_length g nk 0 (by omega);have HTL:Hid (∀ k i,i+k≤nk→(x.tail i k).length≤k*115):=fun k i h=>tail_length g k i (by omega)
  have HKL:Hid (x.ks.length=nk):=hnk;have HVL:Hid (x.vs.length=nk):=hvl;have G:Hid (Good x):=g;have HLF:Hid (x.leaf=true):=hl;obtain⟨oA,hoA⟩:∃ o:Obj,o=.cells #[.bool false,.slice none 0 0,.slice none 0 0,.slice none 0 0] 71:=⟨_,rfl⟩;obtain⟨oB,hoB⟩:∃ o:Obj,o=.cells #[.bool true,.slice none 0 0,.slice none 0 0,.slice none 0 0] 71:=⟨_,rfl⟩;have K0:Kept w ((w.alloc oA).alloc oB):=((Kept.refl w).alloc _).alloc _;have s0:RS w ((w.alloc oA).alloc oB) b true none 0 0 [] none 0 0 [] none 0 0 [] (numL nk++x.tail 0 nk):=by
    refine⟨?_,?_,⟨World.ownsRow_nil _ _ _ _⟩,⟨World.ownsRow_nil _ _ _ _⟩,⟨World.ownsRow_nil _ _ _ _⟩,K0.rd hr,K0.og b,hbl⟩
    · subst hoA;exact (C4.alloc w 71 _ _ _ _).kept ((Kept.refl _).alloc _)
    · subst hoB;rw[← size_alloc w oA];exact C4.alloc _ 71 _ _ _ _
  have A1:=rnum2 nk (by omega) (x.tail 0 nk) (by omega) 237 (by omega) s0.r;have A1:Calls Tryz.prog 110 #[.pointer (some ⟨b,0,none⟩),.int .u64 237] ((w.alloc oA).alloc oB) fun e w'=>e=.returned (.int .u64 (nk:Nat))∧Rd w' b (bs (x.tail 0 nk)) 0∧Og b ((w.alloc oA).alloc oB) w':=A1
  subst hoA;subst hoB;clear hr g hput htl K0 hnk hvl hl;go_enter Tryz.func101,Tryz.ntmps101;go_wp2_with (first
    | (go_at_call 110
       (with_reducible refine A1.mono ?_)
       rintro e v1 ⟨rfl,r1,o1⟩
       have s1:=s0.call o1 r1
       clear A1 s0 r1 o1))
  go_loopg [23] nk (fun gg v wx=>∃ (i:Nat) (kp:Option Addr) (kc:Nat) (vp:Option Addr) (vc:Nat),v=.int .u64 (i:Nat)∧Hid (gg=nk-i)∧i≤nk∧RS w wx b true kp i kc (x.ks.take i) vp i vc (x.vs.take i) none 0 0 [] (x.tail i (nk-i)));case atStart=>exact⟨0,_,_,_,_,rfl,rfl,Nat.zero_le _,s1⟩
  case round=>
    obtain⟨i,kp,kc,vp,vc,rfl,hg,hin,s⟩:=hrel;clear s1;by_cases h1:i<nk
    · have h1':(i:Int)<(nk:Int):=by omega
      obtain⟨k,hk⟩:∃ k,x.ks[i]? = some k:=⟨_,List.getElem?_eq_getElem (by rw[HKL.out];exact h1)⟩;obtain⟨v,hv⟩:∃ v,x.vs[i]? = some v:=⟨_,List.getElem?_eq_getElem (by rw[HVL.out];exact h1)⟩;have HK:Hid (x.ks[i]? = some k):=hk;have HV:Hid (x.vs[i]? = some v):=hv;have hks:=G.out.small k (List.mem_of_getElem? hk);have hov:=G.out.ok v (List.mem_of_getElem? hv);have et:x.tail i (nk-i)=keyN k++(valN v++x.tail (i+1) (nk-(i+1))):=by
        rw[show nk-i=(nk-(i+1))+1 by omega,Nd.tail];unfold Nd.item;rw[hk,hv,if_pos HLF.out,List.append_assoc];rfl
      have z1:=HTL.out (nk-(i+1)) (i+1) (by omega);have z2:=valN_length v hov;rw[et]at s;have s':=s.kept (Kept.refl wr).drew;have A2:=rt64 k hks (valN v++x.tail (i+1) (nk-(i+1))) (by rw[List.length_append];omega) s'.r;have HA3:Hid (∀ W,Rd W b (bs (valN v++x.tail (i+1) (nk-(i+1)))) 0→Calls Tryz.prog 129 #[.pointer (some ⟨b,0,none⟩)] W fun e w'=>e=.returned (.agg #[.string v.d,.int .i64 v.p,.int .i64 v.l])∧Rd w' b (bs (x.tail (i+1) (nk-(i+1)))) 0∧Og b W w'):=fun W h=>value_walk v hov _ (by omega) h
      obtain⟨c0,c1,c2,c3⟩:=s'.X.cs;clear hk hv et z1 z2 hks;go_wp2_with fail;go_region_law (first
        | (go_simp
           go_at_call 128
           (with_reducible refine A2.mono ?_)
           rintro e v1 ⟨rfl,r1,o1⟩
           have s1:=s'.call o1 r1
           obtain⟨d0,d1,d2,d3⟩:=s1.X.cs
           have d1':=fun o=>(s1.X.kept ((Kept.refl v1).alloc o)).cs.2.1
           have sA:=s1.kept ((Kept.refl v1).alloc (.cells #[.string k] 9))
           have hn1:=one_cellA v1 (.string k) 9
           have h1one:∀ u∈[Value.string k],u.oneCell'=true:=(by intro u hu;simp at hu;subst hu;rfl)
           have hBE:w.heap.size+1+1≤(v1.alloc (.cells #[.string k] 9)).heap.size:=(by have:=sA.X.lt;omega)
           clear A2
           go_wp2_with fail)
        | (refine step_append_lies _ (by rfl) _ _ _ (by rfl) (w.heap.size+1+1) 9 i9 _ 1 16 Tryz.underlying22 hi9 hz90 hz91 hz92 (by rfl) (by decide) (.slice kp i kc) i (kcl (x.ks.take i)) (by rfl) sA.K.out ⟨v1.heap.size,0,none⟩ 1 1 [.string k] (by rfl) (by rfl) hn1 h1one (by decide) (by unfold maxLen;omega) (by omega) hBE _ rfl ?_
           intro g3 cap3 w3 ho3 hg3 _ _
           rw[ob]at hg3
           obtain⟨X3,s3⟩:=sA.putK hg3 (q:=some ⟨g3,0,none⟩) (m:=i+1) (c:=cap3) (zs:=x.ks.take (i+1)) ⟨by rw[kcl_more HK.out];exact ho3⟩
           have c33:=X3.cs.2.1
           have f33:=X3.fz 1))
      all_goals
        clear X3 c33 f33 hg3 ho3 sA hn1 h1one hBE s1 d0 d1 d2 d3 d1' o1 r1 s' c0 c1 c2 c3 s
        generalize hW3:w3.setCell ⟨w.heap.size+1,1,none⟩ (.slice (some ⟨g3,0,none⟩) (i+1) cap3)=W3 at *
        clear hW3
        have s':=s3.kept (Kept.refl W3).drew
        clear s3
        have A3:=HA3.out _ s'.r
        obtain⟨c0,c1,c2,c3⟩:=s'.X.cs
        clear HA3
        go_wp2_with fail
        go_region_law (first
          | (go_simp
             go_at_call 129
             (with_reducible refine A3.mono ?_)
             rintro e v5 ⟨rfl,r5,o5⟩
             have s5:=s'.call o5 r5
             obtain⟨d0,d1,d2,d3⟩:=s5.X.cs
             have d2':=fun o=>(s5.X.kept ((Kept.refl v5).alloc o)).cs.2.2.1
             have sA:=s5.kept ((Kept.refl v5).alloc (.cells #[.string v.d,.int .i64 v.p,.int .i64 v.l] 35))
             have hn1:=three_cellsA v5 (.string v.d) (.int .i64 v.p) (.int .i64 v.l) 35
             have h1one:∀ u∈[Value.string v.d,Value.int .i64 v.p,Value.int .i64 v.l],u.oneCell'=true:=Vl.one v
             have hBE:w.heap.size+1+1≤(v5.alloc (.cells #[.string v.d,.int .i64 v.p,.int .i64 v.l] 35)).heap.size:=(by have:=sA.X.lt;omega)
             clear A3
             go_wp2_with fail)
          | (refine step_append_lies _ (by rfl) _ _ _ (by rfl) (w.heap.size+1+1) 35 i49 _ 3 32 Tryz.underlying69 hi49 hz490 hz491 hz492 (by rfl) (by decide) (.slice vp i vc) i (vcl (x.vs.take i)) (by rfl) sA.V.out ⟨v5.heap.size,0,none⟩ 1 1 [.string v.d,.int .i64 v.p,.int .i64 v.l] (by rfl) (by rfl) hn1 h1one (by decide) (by unfold maxLen;omega) (by omega) hBE _ rfl ?_
             intro g6 cap6 w6 ho6 hg6 _ _
             rw[ob]at hg6
             obtain⟨X6,s6⟩:=sA.putV hg6 (q:=some ⟨g6,0,none⟩) (m:=i+1) (c:=cap6) (zs:=x.vs.take (i+1)) ⟨by rw[vcl_more HV.out];exact ho6⟩
             have c66:=X6.cs.2.2.1
             have f66:=X6.fz 2))
        all_goals
          clear X6 c66 f66 hg6 ho6 sA hn1 h1one hBE s5 d0 d1 d2 d3 d2' o5 r5 s' c0 c1 c2 c3
          generalize hW6:w6.setCell ⟨w.heap.size+1,2,none⟩ (.slice (some ⟨g6,0,none⟩) (i+1) cap6)=W6 at *
          clear hW6
          go_wp2
          go_roundg (nk-(i+1))
          case measure=>rw[hg.out];omega
          case rel=>exact⟨i+1,_,cap3,_,cap6,by go_num,rfl,by omega,s6⟩
    · obtain rfl:nk=i:=by omega
      have h1':¬ ((nk:Int)<(nk:Int)):=by omega
      rw[Nat.sub_self,List.take_of_length_le (by rw[HKL.out];exact Nat.le_refl _),List.take_of_length_le (by rw[HVL.out];exact Nat.le_refl _)]at s;have s':=s.kept (Kept.refl wr).drew;have AE:=end_walk (x:=0) s'.r;obtain⟨c0,c1,c2,c3⟩:=s'.X.cs;obtain⟨⟨g0,f0⟩,⟨g1,f1⟩,⟨g2,f2⟩,⟨g3,f3⟩,hfin⟩:=ready4 s.R.out (.bool true) (.slice kp nk kc) (.slice vp nk vc) (.slice none 0 0);go_wp2_with fail;go_region_with (first
        | (go_at_call 130
           (with_reducible refine AE.mono ?_)
           rintro e v8 ⟨rfl,hv8⟩
           rw[hv8]
           clear hv8))
      all_goals
        have q1:=(s.K.mono (Nat.le_succ _)).st4 (b:=w.heap.size) (Nat.lt_succ_self _) (.bool true) (.slice kp nk kc) (.slice vp nk vc) (.slice none 0 0)
        have q2:=(s.V.mono (Nat.le_succ _)).st4 (b:=w.heap.size) (Nat.lt_succ_self _) (.bool true) (.slice kp nk kc) (.slice vp nk vc) (.slice none 0 0)
        have q3:Og b w ((((wr.setCell ⟨w.heap.size,0,none⟩ (.bool true)).setCell ⟨w.heap.size,1,none⟩ (.slice kp nk kc)).setCell ⟨w.heap.size,2,none⟩ (.slice vp nk vc)).setCell ⟨w.heap.size,3,none⟩ (.slice none 0 0)):=by
          have os:=s.o.out;refine⟨os.os,os.tape,os.output,by rw[size_set,size_set,size_set,size_set];exact os.size,fun j hj hne=>?_⟩;rw[others4 wr (by omega) _ _ _ _];exact os.block j hj hne
        generalize hW:((((wr.setCell ⟨w.heap.size,0,none⟩ (.bool true)).setCell ⟨w.heap.size,1,none⟩ (.slice kp nk kc)).setCell ⟨w.heap.size,2,none⟩ (.slice vp nk vc)).setCell ⟨w.heap.size,3,none⟩ (.slice none 0 0))=WF at hfin q1 q2 q3 ⊢
        go_wp2
        refine bodyPost_ret (v:=.tuple #[.agg #[.bool true,.slice kp nk kc,.slice vp nk vc,.slice none 0 0],.int .i64 0]) ?_ rfl ⟨_,_,_,_,_,_,_,_,_,rfl,⟨HLF.out,((q1.kept (Kept.refl WF).drew)).rw,((q2.kept (Kept.refl WF).drew)).rw,?_,((q1.kept (Kept.refl WF).drew)).rx,((q2.kept (Kept.refl WF).drew)).rx,Rx.none _ _⟩,q3.trans ((Kept.refl WF).drew.og b),fun _ _ _ e=>by cases e⟩
        · exact results_two (p:=4) (u:=5) (ty:=71) rfl _ _ w.heap.size 71 #[.bool true,.slice kp nk kc,.slice vp nk vc,.slice none 0 0] (0,0) _ rfl hfin Tryz.underlying71 rfl size71
        · rw[(G.out.lv HLF.out).2]
          exact⟨rfl,Nat.le_refl _,Nat.zero_le _,.inl ⟨rfl,rfl⟩⟩
set_option maxHeartbeats 4000000 in
set_option maxRecDepth 100000 in
theorem read_false{w:World}{b:Nat}{x:Nd}(hr:Rd w b (bs x.put) 0)(g:Good x)(hl:x.leaf=false)(h60:x.ks.length≤120) :
    Calls Tryz.prog 101 #[.pointer (some ⟨b,0,none⟩),.bool false] w fun e w'=>∃ kp nk kc vp nv vc ip ni ic,e=.returned (.tuple #[.agg #[.bool false,.slice kp nk kc,.slice vp nv vc,.slice ip ni ic],.int .i64 0])∧NV w' false kp nk kc vp nv vc ip ni ic x∧Og b w w'∧Nw w.heap.size ip:=by
  obtain⟨i9,hi9,hz90,hz91,hz92⟩:=info_parts info9;obtain⟨i3,hi3,hz30,hz31,hz32⟩:=info_parts info3;have hf:=h60;have hbl:=hr.lt;obtain⟨nk,hnk⟩:∃ nk,x.ks.length=nk:=⟨_,rfl⟩;rw[hnk]at hf;have hvl:x.is.length=nk+1:=by rw[(g.li hl).1,hnk]
  obtain⟨q0,hq0⟩:∃ v,x.is[0]? = some v:=⟨_,List.getElem?_eq_getElem (by omega)⟩;obtain⟨q,rfl,hq⟩:=g.ik q0 (List.mem_of_getElem? hq0);have HQ0:Hid (x.is[0]? = some (q:Int)):=hq0;have zq:=num_small q (by omega);have uq:IntKind.i64.wrap (q:Int)=(q:Int):=by rw[IntKind.wrap_i64];omega
  have hput:x.put=numL nk++(numL q++x.tail 0 nk):=by
    have a:=tail_items x nk 0;rw[Nat.zero_add]at a;unfold Nd.put Nd.head;rw[hnk,if_neg (by rw[hl];decide),hq0,← a];simp[Nd.items]
  rw[hput]at hr;have htl:=tail_length g nk 0 (by omega);have HTL:Hid (∀ k i,i+k≤nk→(x.tail i k).length≤k*115):=fun k i h=>tail_length g k i (by omega)
  have HKL:Hid (x.ks.length=nk):=hnk;have HVL:Hid (x.is.length=nk+1):=hvl;have G:Hid (Good x):=g;have HLF:Hid (x.leaf=false):=hl;obtain⟨oA,hoA⟩:∃ o:Obj,o=.cells #[.bool false,.slice none 0 0,.slice none 0 0,.slice none 0 0] 71:=⟨_,rfl⟩;obtain⟨oB,hoB⟩:∃ o:Obj,o=.cells #[.bool false,.slice none 0 0,.slice none 0 0,.slice none 0 0] 71:=⟨_,rfl⟩;have K0:Kept w ((w.alloc oA).alloc oB):=((Kept.refl w).alloc _).alloc _;have s0:RS w ((w.alloc oA).alloc oB) b false none 0 0 [] none 0 0 [] none 0 0 [] (numL nk++(numL q++x.tail 0 nk)):=by
    refine⟨?_,?_,⟨World.ownsRow_nil _ _ _ _⟩,⟨World.ownsRow_nil _ _ _ _⟩,⟨World.ownsRow_nil _ _ _ _⟩,K0.rd hr,K0.og b,hbl⟩
    · subst hoA;exact (C4.alloc w 71 _ _ _ _).kept ((Kept.refl _).alloc _)
    · subst hoB;rw[← size_alloc w oA];exact C4.alloc _ 71 _ _ _ _
  have A1:=rnum2 nk (by omega) (numL q++x.tail 0 nk) (by rw[List.length_append];omega) 237 (by omega) s0.r;have A1:Calls Tryz.prog 110 #[.pointer (some ⟨b,0,none⟩),.int .u64 237] ((w.alloc oA).alloc oB) fun e w'=>e=.returned (.int .u64 (nk:Nat))∧Rd w' b (bs (numL q++x.tail 0 nk)) 0∧Og b ((w.alloc oA).alloc oB) w':=A1
  have HAQ:Hid (∀ W,Rd W b (bs (numL q++x.tail 0 nk)) 0→Calls Tryz.prog 110 #[.pointer (some ⟨b,0,none⟩),.int .u64 16383] W fun e w'=>e=.returned (.int .u64 (q:Nat))∧Rd w' b (bs (x.tail 0 nk)) 0∧Og b W w'):=fun W h=>rnum2 q (by omega) (x.tail 0 nk) (by omega) 16383 (by omega) h
  subst hoA;subst hoB;clear hr g hput htl K0 hnk hvl hl hq0 zq;go_enter Tryz.func101,Tryz.ntmps101;go_wp2_with (first
    | (go_at_call 110
       (with_reducible refine A1.mono ?_)
       rintro e v1 ⟨rfl,r1,o1⟩
       have s1:=s0.call o1 r1
       clear A1 s0 r1 o1))
  have s':=s1.kept (Kept.refl v1).drew;have AQ:=HAQ.out _ s'.r;obtain⟨c0,c1,c2,c3⟩:=s'.X.cs;clear HAQ s1;go_region_law (first
    | (go_simp
       go_at_call 110
       (with_reducible refine AQ.mono ?_)
       rintro e v5 ⟨rfl,r5,o5⟩
       have s5:=s'.call o5 r5
       obtain⟨d0,d1,d2,d3⟩:=s5.X.cs
       have d3':=fun o=>(s5.X.kept ((Kept.refl v5).alloc o)).cs.2.2.2
       have sA:=s5.kept ((Kept.refl v5).alloc (.cells #[.int .i64 (q:Nat)] 3))
       have hn1:=one_cellA v5 (.int .i64 (q:Nat)) 3
       have h1one:∀ u∈[Value.int .i64 (q:Nat)],u.oneCell'=true:=one_one .i64 _
       have hBE:w.heap.size+1+1≤(v5.alloc (.cells #[.int .i64 (q:Nat)] 3)).heap.size:=(by have:=sA.X.lt;omega)
       clear AQ
       go_wp2_with fail)
    | (refine step_append_lies _ (by rfl) _ _ _ (by rfl) (w.heap.size+1+1) 3 i3 _ 1 8 Tryz.underlying49 hi3 hz30 hz31 hz32 (by rfl) (by decide) (.slice none 0 0) 0 (icl []) (by rfl) sA.I.out ⟨v5.heap.size,0,none⟩ 1 1 [.int .i64 (q:Nat)] (by rfl) (by rfl) hn1 h1one (by decide) (by decide) (by decide) hBE _ rfl ?_
       intro g6 cap6 w6 ho6 hg6 _ _
       rw[ob]at hg6
       obtain⟨X6,s6⟩:=sA.putI hg6 (q:=some ⟨g6,0,none⟩) (m:=1) (c:=cap6) (zs:=x.is.take (0+1)) ⟨by rw[icl_more HQ0.out];exact ho6⟩
       have c66:=X6.cs.2.2.2
       have f66:=X6.fz 3))
  all_goals
   clear X6 c66 f66 hg6 ho6 sA hn1 h1one hBE s5 d0 d1 d2 d3 d3' o5 r5 s' c0 c1 c2 c3
   generalize hW6:w6.setCell ⟨w.heap.size+1,3,none⟩ (.slice (some ⟨g6,0,none⟩) 1 cap6)=W6 at *
   clear hW6
   go_wp2
   go_loopg [23] nk (fun gg v wx=>∃ (i:Nat) (kp:Option Addr) (kc:Nat) (ip:Option Addr) (ic:Nat),v=.int .u64 (i:Nat)∧Hid (gg=nk-i)∧i≤nk∧RS w wx b false kp i kc (x.ks.take i) none 0 0 [] ip (i+1) ic (x.is.take (i+1)) (x.tail i (nk-i)))
   case atStart=>exact⟨0,_,_,_,_,rfl,rfl,Nat.zero_le _,s6⟩
   case round=>
     obtain⟨i,kp,kc,ip,ic,rfl,hg,hin,s⟩:=hrel;clear s6;by_cases h1:i<nk
     · have h1':(i:Int)<(nk:Int):=by omega
       obtain⟨k,hk⟩:∃ k,x.ks[i]? = some k:=⟨_,List.getElem?_eq_getElem (by rw[HKL.out];exact h1)⟩;obtain⟨v,hv⟩:∃ v,x.is[i+1]? = some v:=⟨_,List.getElem?_eq_getElem (by rw[HVL.out];omega)⟩;obtain⟨y,rfl,hy⟩:=G.out.ik v (List.mem_of_getElem? hv);have uy:IntKind.i64.wrap (y:Int)=(y:Int):=by rw[IntKind.wrap_i64];omega
       have HK:Hid (x.ks[i]? = some k):=hk;have HV:Hid (x.is[i+1]? = some (y:Int)):=hv;have hks:=G.out.small k (List.mem_of_getElem? hk);have et:x.tail i (nk-i)=keyN k++(numL y++x.tail (i+1) (nk-(i+1))):=by
         rw[show nk-i=(nk-(i+1))+1 by omega,Nd.tail];unfold Nd.item;rw[hk,hv,if_neg (by rw[HLF.out];decide),List.append_assoc];rfl
       have z1:=HTL.out (nk-(i+1)) (i+1) (by omega);have z2:=num_small y (by omega);rw[et]at s;have s':=s.kept (Kept.refl wr).drew;have A2:=rt64 k hks (numL y++x.tail (i+1) (nk-(i+1))) (by rw[List.length_append];omega) s'.r;have HA3:Hid (∀ W,Rd W b (bs (numL y++x.tail (i+1) (nk-(i+1)))) 0→Calls Tryz.prog 110 #[.pointer (some ⟨b,0,none⟩),.int .u64 16383] W fun e w'=>e=.returned (.int .u64 (y:Nat))∧Rd w' b (bs (x.tail (i+1) (nk-(i+1)))) 0∧Og b W w'):=fun W h=>rnum2 y (by omega) _ (by omega) 16383 (by omega) h
       obtain⟨c0,c1,c2,c3⟩:=s'.X.cs;clear hk hv et z1 z2 hks;go_wp2_with fail;go_region_law (first
         | (go_simp
            go_at_call 128
            (with_reducible refine A2.mono ?_)
            rintro e v1 ⟨rfl,r1,o1⟩
            have s1:=s'.call o1 r1
            obtain⟨d0,d1,d2,d3⟩:=s1.X.cs
            have d1':=fun o=>(s1.X.kept ((Kept.refl v1).alloc o)).cs.2.1
            have sA:=s1.kept ((Kept.refl v1).alloc (.cells #[.string k] 9))
            have hn1:=one_cellA v1 (.string k) 9
            have h1one:∀ u∈[Value.string k],u.oneCell'=true:=(by intro u hu;simp at hu;subst hu;rfl)
            have hBE:w.heap.size+1+1≤(v1.alloc (.cells #[.string k] 9)).heap.size:=(by have:=sA.X.lt;omega)
            clear A2
            go_wp2_with fail)
         | (refine step_append_lies _ (by rfl) _ _ _ (by rfl) (w.heap.size+1+1) 9 i9 _ 1 16 Tryz.underlying22 hi9 hz90 hz91 hz92 (by rfl) (by decide) (.slice kp i kc) i (kcl (x.ks.take i)) (by rfl) sA.K.out ⟨v1.heap.size,0,none⟩ 1 1 [.string k] (by rfl) (by rfl) hn1 h1one (by decide) (by unfold maxLen;omega) (by omega) hBE _ rfl ?_
            intro g3 cap3 w3 ho3 hg3 _ _
            rw[ob]at hg3
            obtain⟨X3,s3⟩:=sA.putK hg3 (q:=some ⟨g3,0,none⟩) (m:=i+1) (c:=cap3) (zs:=x.ks.take (i+1)) ⟨by rw[kcl_more HK.out];exact ho3⟩
            have c33:=X3.cs.2.1
            have f33:=X3.fz 1))
       all_goals
         clear X3 c33 f33 hg3 ho3 sA hn1 h1one hBE s1 d0 d1 d2 d3 d1' o1 r1 s' c0 c1 c2 c3 s
         generalize hW3:w3.setCell ⟨w.heap.size+1,1,none⟩ (.slice (some ⟨g3,0,none⟩) (i+1) cap3)=W3 at *
         clear hW3
         have s':=s3.kept (Kept.refl W3).drew
         clear s3
         have A3:=HA3.out _ s'.r
         obtain⟨c0,c1,c2,c3⟩:=s'.X.cs
         clear HA3
         go_wp2_with fail
         go_region_law (first
           | (go_simp
              go_at_call 110
              (with_reducible refine A3.mono ?_)
              rintro e v5 ⟨rfl,r5,o5⟩
              have s5:=s'.call o5 r5
              obtain⟨d0,d1,d2,d3⟩:=s5.X.cs
              have d3':=fun o=>(s5.X.kept ((Kept.refl v5).alloc o)).cs.2.2.2
              have sA:=s5.kept ((Kept.refl v5).alloc (.cells #[.int .i64 (y:Nat)] 3))
              have hn1:=one_cellA v5 (.int .i64 (y:Nat)) 3
              have h1one:∀ u∈[Value.int .i64 (y:Nat)],u.oneCell'=true:=one_one .i64 _
              have hBE:w.heap.size+1+1≤(v5.alloc (.cells #[.int .i64 (y:Nat)] 3)).heap.size:=(by have:=sA.X.lt;omega)
              clear A3
              go_wp2_with fail)
           | (refine step_append_lies _ (by rfl) _ _ _ (by rfl) (w.heap.size+1+1) 3 i3 _ 1 8 Tryz.underlying49 hi3 hz30 hz31 hz32 (by rfl) (by decide) (.slice ip (i+1) ic) (i+1) (icl (x.is.take (i+1))) (by rfl) sA.I.out ⟨v5.heap.size,0,none⟩ 1 1 [.int .i64 (y:Nat)] (by rfl) (by rfl) hn1 h1one (by decide) (by unfold maxLen;omega) (by omega) hBE _ rfl ?_
              intro g6 cap6 w6 ho6 hg6 _ _
              rw[ob]at hg6
              obtain⟨X6,s6⟩:=sA.putI hg6 (q:=some ⟨g6,0,none⟩) (m:=i+1+1) (c:=cap6) (zs:=x.is.take (i+1+1)) ⟨by rw[icl_more HV.out];exact ho6⟩
              have c66:=X6.cs.2.2.2
              have f66:=X6.fz 3))
         all_goals
           clear X6 c66 f66 hg6 ho6 sA hn1 h1one hBE s5 d0 d1 d2 d3 d3' o5 r5 s' c0 c1 c2 c3
           generalize hW6:w6.setCell ⟨w.heap.size+1,3,none⟩ (.slice (some ⟨g6,0,none⟩) (i+1+1) cap6)=W6 at *
           clear hW6
           go_wp2
           go_roundg (nk-(i+1))
           case measure=>rw[hg.out];omega
           case rel=>exact⟨i+1,_,cap3,_,cap6,by go_num,rfl,by omega,s6⟩
     · obtain rfl:nk=i:=by omega
       have h1':¬ ((nk:Int)<(nk:Int)):=by omega
       rw[Nat.sub_self,List.take_of_length_le (by rw[HKL.out];exact Nat.le_refl _),List.take_of_length_le (by rw[HVL.out];exact Nat.le_refl _)]at s;have s':=s.kept (Kept.refl wr).drew;have AE:=end_walk (x:=0) s'.r;obtain⟨c0,c1,c2,c3⟩:=s'.X.cs;obtain⟨⟨g0,f0⟩,⟨g1,f1⟩,⟨g2,f2⟩,⟨g3,f3⟩,hfin⟩:=ready4 s.R.out (.bool false) (.slice kp nk kc) (.slice none 0 0) (.slice ip (nk+1) ic);go_wp2_with fail;go_region_with (first
         | (go_at_call 130
            (with_reducible refine AE.mono ?_)
            rintro e v8 ⟨rfl,hv8⟩
            rw[hv8]
            clear hv8))
       all_goals
         have q1:=(s.K.mono (Nat.le_succ _)).st4 (b:=w.heap.size) (Nat.lt_succ_self _) (.bool false) (.slice kp nk kc) (.slice none 0 0) (.slice ip (nk+1) ic)
         have q2:=(s.I.mono (Nat.le_succ _)).st4 (b:=w.heap.size) (Nat.lt_succ_self _) (.bool false) (.slice kp nk kc) (.slice none 0 0) (.slice ip (nk+1) ic)
         have q3:Og b w ((((wr.setCell ⟨w.heap.size,0,none⟩ (.bool false)).setCell ⟨w.heap.size,1,none⟩ (.slice kp nk kc)).setCell ⟨w.heap.size,2,none⟩ (.slice none 0 0)).setCell ⟨w.heap.size,3,none⟩ (.slice ip (nk+1) ic)):=by
           have os:=s.o.out;refine⟨os.os,os.tape,os.output,by rw[size_set,size_set,size_set,size_set];exact os.size,fun j hj hne=>?_⟩;rw[others4 wr (by omega) _ _ _ _];exact os.block j hj hne
         generalize hW:((((wr.setCell ⟨w.heap.size,0,none⟩ (.bool false)).setCell ⟨w.heap.size,1,none⟩ (.slice kp nk kc)).setCell ⟨w.heap.size,2,none⟩ (.slice none 0 0)).setCell ⟨w.heap.size,3,none⟩ (.slice ip (nk+1) ic))=WF at hfin q1 q2 q3 ⊢
         go_wp2
         refine bodyPost_ret (v:=.tuple #[.agg #[.bool false,.slice kp nk kc,.slice none 0 0,.slice ip (nk+1) ic],.int .i64 0]) ?_ rfl ⟨_,_,_,_,_,_,_,_,_,rfl,⟨HLF.out,((q1.kept (Kept.refl WF).drew)).rw,?_,((q2.kept (Kept.refl WF).drew)).rw,((q1.kept (Kept.refl WF).drew)).rx,Rx.none _ _,((q2.kept (Kept.refl WF).drew)).rx⟩,q3.trans ((Kept.refl WF).drew.og b),q2.nw.mono (by omega)⟩
         · exact results_two (p:=4) (u:=5) (ty:=71) rfl _ _ w.heap.size 71 #[.bool false,.slice kp nk kc,.slice none 0 0,.slice ip (nk+1) ic] (0,0) _ rfl hfin Tryz.underlying71 rfl size71
         · rw[(G.out.li HLF.out).2]
           exact⟨rfl,Nat.le_refl _,Nat.zero_le _,.inl ⟨rfl,rfl⟩⟩
theorem read_walk{w:World}{b:Nat}{x:Nd}(hr:Rd w b (bs x.put) 0)(g:Good x)(h60:x.ks.length≤120)(l:Bool)(hl:x.leaf=l) :
  Calls Tryz.prog 101 #[.pointer (some ⟨b,0,none⟩),.bool l] w fun e w'=>∃ kp nk kc vp nv vc ip ni ic,e=.returned (.tuple #[.agg #[.bool l,.slice kp nk kc,.slice vp nv vc,.slice ip ni ic],.int .i64 0])∧NV w' l kp nk kc vp nv vc ip ni ic x∧Og b w w'∧Nw w.heap.size ip:=by
 cases l with
 | true=>exact read_true hr g hl h60
 | false=>exact read_false hr g hl h60
theorem up_at{ks:List ByteArray}(hu:Up ks){i j:Nat}{a b:ByteArray}(h:i<j)(ha:ks[i]? = some a)(hb:ks[j]? = some b):sl a b=true:=by
 obtain⟨h1,rfl⟩:=List.getElem?_eq_some_iff.1 ha;obtain⟨h2,rfl⟩:=List.getElem?_eq_some_iff.1 hb;exact List.pairwise_iff_getElem.1 hu i j h1 h2 h
set_option maxHeartbeats 2000000 in
set_option maxRecDepth 100000 in
theorem right_walk{w:World}{l:Bool}{kp:Option Addr}{nk kc:Nat}{vp:Option Addr}{nv vc:Nat}{ip:Option Addr}{ni ic:Nat}{x:Nd}(h:NV w l kp nk kc vp nv vc ip ni ic x)(hu:Up x.ks)(hok:∀ v∈x.vs,Okv v)(hb:nk≤1000)(hb2:nv≤1000) :
    Calls Tryz.prog 103 #[.agg #[.bool l,.slice kp nk kc,.slice vp nv vc,.slice ip ni ic]] w fun e w'=>e=.returned (.bool true)∧Kept w w':=by
  have HV:Hid (NV w l kp nk kc vp nv vc ip ni ic x):=h;have HU:Hid (Up x.ks):=hu;have HO:Hid (∀ v∈x.vs,Okv v):=hok;have K0:Kept w (w.alloc (.cells #[.bool l,.slice kp nk kc,.slice vp nv vc,.slice ip ni ic] 71)):=(Kept.refl w).alloc _;have A0:=C4.alloc w 71 (.bool l) (.slice kp nk kc) (.slice vp nv vc) (.slice ip ni ic);clear h hu hok;go_enter Tryz.func103,Tryz.ntmps103;go_wp2;go_loopg [3] nk (fun gg v wx=>∃ i:Nat,v=.int .i64 (i:Nat)∧Hid (gg=nk+1-i)∧1≤i∧i≤nk+1∧C4 wx w.heap.size 71 (.bool l) (.slice kp nk kc) (.slice vp nv vc) (.slice ip ni ic)∧Kept w wx);case atStart=>exact⟨1,rfl,rfl,Nat.le_refl _,by omega,A0,K0⟩
  case round=>
   obtain⟨i,rfl,hg,hi1,hin,A,K⟩:=hrel;clear A0 K0;obtain⟨a0,a1,a2,a3⟩:=A.cs;by_cases h1:i<nk
   · have h1':(i:Int)<(nk:Int):=by omega
     obtain⟨p,hp⟩:∃ p:Nat,i=p+1:=⟨i-1,by omega⟩;obtain⟨k,hk⟩:∃ k,x.ks[i]? = some k:=⟨_,List.getElem?_eq_getElem (by rw[HV.out.nk];exact h1)⟩;obtain⟨j,hj⟩:∃ j,x.ks[p]? = some j:=⟨_,List.getElem?_eq_getElem (by rw[HV.out.nk];omega)⟩;have hless:Op.bytesLess j.toList k.toList=true:=up_at HU.out (by omega) hj hk;obtain⟨pb,po,rfl,hpc⟩:=HV.out.k.some (by omega);have s0:=(K.drew).cell (hpc _ _ (kcl_at hk));have s1:=(K.drew).cell (hpc _ _ (kcl_at hj));have u1:IntKind.i64.wrap ((i:Int)-1)=(p:Int):=by rw[IntKind.wrap_i64];omega
     have hpn:(p:Int)<(nk:Int):=by omega
     have HP:Hid (i=p+1):=hp;obtain⟨d0,d1,d2,d3⟩:=A.drew.cs;clear hk hj hpc hp;go_wp2_with fail;go_region_held3 (fun W=>W.cell? ⟨w.heap.size,1,none⟩=some (.slice (some ⟨pb,po,none⟩) nk kc)∧W.cell? ⟨pb,po+p,none⟩=some (.string j)∧W.cell? ⟨pb,po+i,none⟩=some (.string k)) (go_keep) (fail);go_wp2;go_roundg (nk+1-(i+1));case measure=>rw[hg.out];omega
     case rel=>exact⟨i+1,by go_num,rfl,by omega,by omega,A.drew,K.drew⟩
   · have h1':¬ ((i:Int)<(nk:Int)):=by omega
     clear hg;go_wp2;go_loopg [28] nv (fun gg v wx=>∃ i:Nat,v=.int .i64 (i:Nat)∧Hid (gg=nv-i)∧i≤nv∧Kept w wx);case atStart=>exact⟨0,rfl,rfl,Nat.zero_le _,K⟩
     case round=>
      clear K A a0 a1 a2 a3 hin h1 h1' hi1;obtain⟨i,rfl,hg,hin,K⟩:=hrel;by_cases h1:i<nv
      · have h1':(i:Int)<(nv:Int):=by omega
        obtain⟨v,hv⟩:∃ v,x.vs[i]? = some v:=⟨_,List.getElem?_eq_getElem (by rw[HV.out.nv];exact h1)⟩;have hov:=HO.out v (List.mem_of_getElem? hv);obtain⟨pb,po,rfl,hpc⟩:=HV.out.v.some (by omega);obtain⟨t0,t1,t2⟩:=vcl_at hv;have s0:=K.cell (hpc _ _ t0);have s1:=K.cell (hpc _ _ t1);have s2:=K.cell (hpc _ _ t2);rw[← Nat.add_assoc]at s1 s2;obtain⟨d,p,ln⟩:=v;clear hv hpc t0 t1 t2;rcases hov with⟨e1,e2,e3⟩|⟨e1,p',l',e2,e3,e4,e5,e6⟩
        · simp only at e1 e2
          subst e1;subst e2;go_wp2;go_roundg (nv-(i+1));case measure=>rw[hg.out];omega
          case rel=>exact⟨i+1,by go_num,rfl,by omega,K.alloc _⟩
        · simp only at e2 e4
          subst e2;subst e4;have y1:(0:Int)≤(p':Int):=by omega
          have y2:¬ ((l':Int)≤48):=by omega
          go_wp2;go_roundg (nv-(i+1));case measure=>rw[hg.out];omega
          case rel=>exact⟨i+1,by go_num,rfl,by omega,K.alloc _⟩
      · obtain rfl:nv=i:=by omega
        have h1':¬ ((nv:Int)<(nv:Int)):=by omega
        go_wp2;go_ret;exact⟨rfl,K⟩
theorem Rw.other{W W':World}{b:Nat}{t:TypeId}{x0:Bool}{q1 q2 q3:Option Addr}{n1 c1 n2 c2 n3 c3:Nat}(X:C4 W b t (.bool x0) (.slice q1 n1 c1) (.slice q2 n2 c2) (.slice q3 n3 c3))(ho:∀ k,k≠b→W'.heap[k]? = W.heap[k]?){sz:Nat}{p:Option Addr}{n c:Nat}{cs:List Value}(h:Rw W sz p n c cs)(hcs:∀ u∈cs,(∃ s,u=.string s)∨∃ k i,u=.int k i):Rw W' sz p n c cs:=by
 refine⟨h.len,h.le,h.cap,?_⟩;rcases h.out with h0 | ⟨pb,off,e,f⟩
 ·exact .inl h0
 ·refine .inr ⟨pb,off,e,fun j u hu=>?_⟩
  have hc:=f j u hu;have hne:pb≠b:=by
   intro e;subst e;rw[cell_of_row W pb _ _ _ _ X.out]at hc;have hm:=Array.mem_of_getElem? hc;simp at hm;rcases hcs u (List.mem_of_getElem? hu) with⟨s,rfl⟩|⟨k,i,rfl⟩
   ·simp at hm
   ·simp at hm
  rw[← hc];exact World.cell?_of_block (ho pb hne)
theorem Rx.other{W W':World}{b:Nat}{x0:Bool}{q1 q2 q3:Option Addr}{n1 c1 n2 c2 n3 c3:Nat}(X:C4 W b 71 (.bool x0) (.slice q1 n1 c1) (.slice q2 n2 c2) (.slice q3 n3 c3))(ho:∀ k,k≠b→W'.heap[k]? = W.heap[k]?){e:TypeId}{p:Option Addr}{c:Nat}(h:Rx W e p c)(he:e≠71):Rx W' e p c:=by
 refine⟨fun g off ph hp=>?_,h.nil⟩;obtain⟨cs,fr,hb⟩:=h.typ g off ph hp;refine⟨cs,fr,(ho g ?_).trans hb⟩;rintro rfl;have hx:=X.out;rw[hb]at hx;injection hx with hx
 injection hx with _ e2 _
 exact he e2
theorem NV.other{W W':World}{b:Nat}{x0:Bool}{q1 q2 q3:Option Addr}{n1 c1 n2 c2 n3 c3:Nat}(X:C4 W b 71 (.bool x0) (.slice q1 n1 c1) (.slice q2 n2 c2) (.slice q3 n3 c3))(ho:∀ k,k≠b→W'.heap[k]? = W.heap[k]?){l:Bool}{kp:Option Addr}{nk kc:Nat}{vp:Option Addr}{nv vc:Nat}{ip:Option Addr}{ni ic:Nat}{x:Nd}(h:NV W l kp nk kc vp nv vc ip ni ic x):NV W' l kp nk kc vp nv vc ip ni ic x:=by
 refine⟨h.hl,h.k.other X ho ?_,h.v.other X ho ?_,h.i.other X ho ?_,h.kx.other X ho (by decide),h.vx.other X ho (by decide),h.ix.other X ho (by decide)⟩
 ·intro u hu;unfold kcl at hu;obtain⟨s,_,rfl⟩:=List.mem_map.1 hu;exact .inl ⟨s,rfl⟩
 ·intro u hu
  unfold vcl at hu;obtain⟨v,_,hm⟩:=List.mem_flatMap.1 hu;simp[Vl.cells]at hm;rcases hm with rfl | rfl | rfl
  ·exact .inl ⟨_,rfl⟩
  ·exact .inr ⟨_,_,rfl⟩
  ·exact .inr ⟨_,_,rfl⟩
 ·intro u hu;unfold icl at hu;obtain⟨s,_,rfl⟩:=List.mem_map.1 hu;exact .inr ⟨_,s,rfl⟩
set_option maxHeartbeats 2000000 in
set_option maxRecDepth 100000 in
theorem get_walk{w:World}{x:Nd}(g:Good x)(h60:x.ks.length≤120)(hu:Up x.ks)(l:Bool)(hl:x.leaf=l) :
    Calls Tryz.prog 74 #[.string (bs x.put),.bool l] w fun e w'=>∃ kp nk kc vp nv vc ip ni ic,e=.returned (.tuple #[.agg #[.bool l,.slice kp nk kc,.slice vp nv vc,.slice ip ni ic],.int .i64 0])∧NV w' l kp nk kc vp nv vc ip ni ic x∧Kept w w'∧Nw w.heap.size ip:=by
  have HN:Hid (∀ W,Calls Tryz.prog 102 #[.string (bs x.put)] W fun e w'=>e=.returned (.pointer (some ⟨W.heap.size,0,none⟩))∧Rd w' W.heap.size (bs x.put) 0∧Kept W w'):=fun W=>new_walk _ W
  have HR:Hid (∀ W b,Rd W b (bs x.put) 0→Calls Tryz.prog 101 #[.pointer (some ⟨b,0,none⟩),.bool l] W fun e w'=>∃ kp nk kc vp nv vc ip ni ic,e=.returned (.tuple #[.agg #[.bool l,.slice kp nk kc,.slice vp nv vc,.slice ip ni ic],.int .i64 0])∧NV w' l kp nk kc vp nv vc ip ni ic x∧Og b W w'∧Nw W.heap.size ip):=fun W b h=>read_walk h g h60 l hl
  have HT:Hid (∀ (W:World) (kp:Option Addr) (nk kc:Nat) (vp:Option Addr) (nv vc:Nat) (ip:Option Addr) (ni ic:Nat),NV W l kp nk kc vp nv vc ip ni ic x→Calls Tryz.prog 103 #[.agg #[.bool l,.slice kp nk kc,.slice vp nv vc,.slice ip ni ic]] W fun e w'=>e=.returned (.bool true)∧Kept W w'):=fun W kp nk kc vp nv vc ip ni ic h=>right_walk h hu g.ok (by have:=h.nk;omega) (by
    have a:=h.nv
    cases hx:x.leaf with
    | true=>have:=(g.lv hx).1;omega
    | false=>rw[(g.li hx).2]at a;simp at a;omega)
  have K0:Kept w (w.alloc (.cells #[.bool false,.slice none 0 0,.slice none 0 0,.slice none 0 0] 71)):=(Kept.refl w).alloc _;have R0:=C4.alloc w 71 (.bool false) (.slice none 0 0) (.slice none 0 0) (.slice none 0 0);have S0:=size_alloc w (.cells #[.bool false,.slice none 0 0,.slice none 0 0,.slice none 0 0] 71);generalize bs x.put=s at *;clear g hu hl h60;go_enter Tryz.func74,Tryz.ntmps74;go_wp2_with (first
    | (go_at_call 102
       (with_reducible refine (HN.out _).mono ?_)
       rintro e v1 ⟨rfl,r1,k1⟩
       rw[S0]at r1
       have R1:=R0.kept k1
       have K1:=K0.trans k1
       clear HN R0 K0 k1)
    | (go_at_call 101
       (with_reducible refine (HR.out _ _ r1).mono ?_)
       rintro e v2 ⟨kp,nk,kc,vp,nv,vc,ip,ni,ic,rfl,N2,o2,nw2⟩
       have nw3:Hid (Nw w.heap.size ip):=nw2.mono K1.size
       clear nw2
       have R2:=R1.og o2 (by omega)
       have K2:=o2.kept K1 (by omega)
       have k3:=(Kept.refl v2).alloc (.cells #[.bool l,.slice kp nk kc,.slice vp nv vc,.slice ip ni ic] 71)
       have X3:=C4.alloc v2 71 (.bool l) (.slice kp nk kc) (.slice vp nv vc) (.slice ip ni ic)
       have N3:=N2.kept k3
       have R3:=R2.kept k3
       have K3:=K2.trans k3
       have z3:=R2.lt
       clear HR r1 R1 K1 o2 R2 K2 k3 N2)
    | (go_at_call 103
       (with_reducible refine (HT.out _ _ _ _ _ _ _ _ _ _ N3).mono ?_)
       rintro e v4 ⟨rfl,k4⟩
       have N4:=N3.kept k4
       have R4:=R3.kept k4
       have X4:=X3.kept k4
       have K4:=K3.trans k4
       obtain⟨c0,c1,c2,c3⟩:=X4.cs
       obtain⟨⟨g0,f0⟩,⟨g1,f1⟩,⟨g2,f2⟩,⟨g3,f3⟩,hfin⟩:=ready4 R4.out (.bool l) (.slice kp nk kc) (.slice vp nv vc) (.slice ip ni ic)))
  have q1:NV ((((v4.setCell ⟨w.heap.size,0,none⟩ (.bool l)).setCell ⟨w.heap.size,1,none⟩ (.slice kp nk kc)).setCell ⟨w.heap.size,2,none⟩ (.slice vp nv vc)).setCell ⟨w.heap.size,3,none⟩ (.slice ip ni ic)) l kp nk kc vp nv vc ip ni ic x:=N4.other R4 (fun k hk=>others4 v4 hk _ _ _ _);have q2:=K4.st4 (b:=w.heap.size) (Nat.le_refl _) (.bool l) (.slice kp nk kc) (.slice vp nv vc) (.slice ip ni ic);generalize hW:((((v4.setCell ⟨w.heap.size,0,none⟩ (.bool l)).setCell ⟨w.heap.size,1,none⟩ (.slice kp nk kc)).setCell ⟨w.heap.size,2,none⟩ (.slice vp nv vc)).setCell ⟨w.heap.size,3,none⟩ (.slice ip ni ic))=WF at hfin q1 q2 ⊢;refine bodyPost_ret (v:=.tuple #[.agg #[.bool l,.slice kp nk kc,.slice vp nv vc,.slice ip ni ic],.int .i64 0]) ?_ rfl ⟨_,_,_,_,_,_,_,_,_,rfl,q1,q2,nw3.out⟩;exact results_two (p:=4) (u:=5) (ty:=71) rfl _ _ w.heap.size 71 #[.bool l,.slice kp nk kc,.slice vp nv vc,.slice ip ni ic] (0,0) _ rfl hfin Tryz.underlying71 rfl size71
end Go.Proofs.YtafgecaeiodmiaaGreatDoor.N
namespace Go.Proofs.YtafgecaeiodmiaaGreatDoor.B
open Go.Proofs.YtafgecaeiodmiaaGreatDoor.N
theorem mid_ex(x:Nd):∀ n,0<n→∃ m,m<n∧(∀ j,j<m→x.gr m<x.gr j)∧∀ j,m≤j→j<n→x.gr m≤x.gr j
 | 0,h=>absurd h (Nat.lt_irrefl _)
 | 1,_=>by
  refine⟨0,by omega,fun j h=>absurd h (Nat.not_lt_zero _),fun j h1 h2=>?_⟩;obtain rfl:j=0:=by omega
  exact Nat.le_refl _
 | n+2,_=>by
  obtain⟨m,h1,h2,h3⟩:=mid_ex x (n+1) (by omega);by_cases h:x.gr (n+1)<x.gr m
  ·refine⟨n+1,by omega,fun j hj=>?_,fun j a b=>?_⟩
   ·by_cases hj2:j<m
    ·have:=h2 j hj2;omega
    ·have:=h3 j (by omega) (by omega);omega
   ·obtain rfl:j=n+1:=by omega
    exact Nat.le_refl _
  ·refine⟨m,by omega,h2,fun j a b=>?_⟩
   by_cases e:j=n+1
   ·subst e;omega
   ·exact h3 j a (by omega)
theorem mid_of{x:Nd}(h:x.ks≠[]):∃ m key,N.Mid x 0 m∧x.ks[m]? = some key:=by
 have hl:0<x.ks.length:=List.length_pos_iff.2 h;obtain⟨m,h1,h2,h3⟩:=mid_ex x x.ks.length hl;exact⟨m,x.ks[m],⟨Nat.zero_le _,h1,fun j _ hj=>h2 j hj,h3⟩,List.getElem?_eq_getElem h1⟩
theorem drops{M:Pm}{D P:List Nat}(h:∀ q,us M q=P.count q+D.count q):D.Nodup∧∀ q∈D,∃ z,M q=some z:=by
 refine⟨List.nodup_iff_count.2 fun q=>?_,fun q hq=>?_⟩
 ·have:=h q;have:=us_le M q;omega
 ·have:=h q
  have h1:=List.count_pos_iff.2 hq;unfold us at this;cases hm:M q with
  | some z=>exact⟨z,rfl⟩
  | none=>rw[hm]at this;simp at this;omega
theorem drp_nil(M:Pm):drp M []=M:=by funext q;simp[drp]
theorem drp_snoc(M:Pm)(D:List Nat)(n:Nat):drp (drp M D) [n]=drp M (D++[n]):=by
 funext q;unfold drp;by_cases h1:q=n <;> by_cases h2:q∈D <;> simp[h1,h2]
theorem drp_in{M:Pm}{D:List Nat}{n:Nat}{z:Nd}(h:M n=some z)(hn:n∉D):drp M D n=some z:=by unfold drp;rw[if_neg hn];exact h
theorem Sg.ups{M0 M:Pm}{d i j:Nat}{x y:Nd}{wp joined added:List Nat}{A C:List Mk}{g:List En→List En}(h:Sg M0 M d x i j y wp joined added A C g):Up y.ks:=
 up_of h.wf (h.ord.sublist ((List.sublist_append_right _ _).trans (List.sublist_append_left _ _)))
theorem jn_up{a b:Nd}{k:ByteArray}(h:Up (jn a k b).ks):Up a.ks∧Up b.ks:=by
 cases hl:a.leaf with
 | true=>rw[jn_leaf hl]at h;exact⟨List.Pairwise.sublist (List.sublist_append_left _ _) h,List.Pairwise.sublist (List.sublist_append_right _ _) h⟩
 | false=>
  rw[jn_inner hl]at h;exact⟨List.Pairwise.sublist (List.sublist_append_left _ _) h,List.Pairwise.sublist ((List.sublist_append_right [k] _).trans (List.sublist_append_right _ _)) h⟩
theorem Lv.step{M0 M:Pm}{d p:Nat}{wp joined added:List Nat}{now:Nd}{A C:List Mk}{key:ByteArray}{mid:List En}{s:Stp}{c:Int}(hf:Pf M0 key (d+1) s A C)(hc:s.x.is[s.kid]? = some c)(hcp:c.toNat=p)(h:Lv M0 M d p wp now joined added (A++pre (fm M0 d) (s.x.is.take s.kid) (s.x.ks.take s.kid)) (post (fm M0 d) (s.x.ks.drop s.kid) (s.x.is.drop (s.kid+1))++C) (upd key mid)) :
  (¬ now.put.length<79∧Sg M0 M d s.x s.kid s.kid now wp joined added A C (upd key mid)) ∨
  (now.put.length<79∧s.kid=0∧∃ (b:Nat) (k:ByteArray) (beside:Nd),s.x.is[1]? = some (b:Int)∧s.x.ks[0]? = some k∧M b=some beside∧WfN M d beside∧Up beside.ks∧Sg M0 M d s.x 0 1 (jn now k beside) wp (b :: joined) added A C (upd key mid)) ∨
  (now.put.length<79∧∃ i,s.kid=i+1∧∃ (b:Nat) (k:ByteArray) (beside:Nd),s.x.is[i]? = some (b:Int)∧s.x.ks[i]? = some k∧M b=some beside∧WfN M d beside∧Up beside.ks∧Sg M0 M d s.x i (i+1) (jn beside k now) wp (b :: joined) added A C (upd key mid)):=by
 have hg:=hf.lifts hc mid;rw[hcp]at hg;have w0:=hf.wf;have hl:=(w0.2.1.li w0.1).1;have hne:0<s.x.ks.length:=List.length_pos_iff.2 hf.ne;by_cases hlow:now.put.length<79
 ·refine .inr ?_
  have kidp:∀ i,i<s.x.is.length→∃ (b:Nat) (beside:Nd),s.x.is[i]? = some (b:Int)∧M0 b=some beside:=by
   intro i hi;have e:=List.getElem?_eq_getElem hi;have hm:=List.getElem_mem hi;obtain⟨q,hq,_⟩:=w0.2.1.ik _ hm;obtain⟨y,hy,_⟩:=w0.2.2 _ hm;rw[hq]at e hy;exact⟨q,y,e,by simpa using hy⟩
  cases hk:s.kid with
  | zero=>
   refine .inl ⟨hlow,rfl,?_⟩;obtain⟨b,beside,hb,hM⟩:=kidp 1 (by omega);rw[hk]at h hc hg;have e:=List.getElem?_eq_getElem hne;obtain⟨h1,h2,h3⟩:=Lv.behind w0 hc hcp hb (by simp) e hM h hlow hg;exact⟨b,_,beside,hb,e,h3,h2,(jn_up h1.ups).2,h1⟩
  | succ i=>
   refine .inr ⟨hlow,i,rfl,?_⟩;have hlt:=(List.getElem?_eq_some_iff.1 hc).1;rw[hk]at h hc hg hlt;obtain⟨b,beside,hb,hM⟩:=kidp i (by omega);have e:=List.getElem?_eq_getElem (show i<s.x.ks.length by omega);obtain⟨h1,h2,h3⟩:=Lv.ahead w0 hc hcp hb (by simp) e hM h hlow hg;exact⟨b,_,beside,hb,e,h3,h2,(jn_up h1.ups).1,h1⟩
 ·exact .inl ⟨hlow,Lv.self w0 hc hcp h hlow hg⟩
theorem wf_pages{M:Pm}:∀ (d:Nat) (x:Nd),WfN M d x→x.ks≠[]→2 ^ d≤(pgN M d x).length+1
 | 0,_,_,_=>by simp
 | d+1,x,w,h=>by
  have hl:=(w.2.1.li w.1).1;have hp:0<x.ks.length:=List.length_pos_iff.2 h;have sub:∀ c∈x.is,2 ^ d≤(pg M d c.toNat).length:=by
   intro c hc;obtain⟨y,hy,a,_,wy⟩:=w.2.2 c hc;rw[pg_some hy,List.length_cons];exact wf_pages d y wy a
  have e:pgN M (d+1) x=x.is.flatMap fun c=>pg M d c.toNat:=rfl
  match hi:x.is with
  | []=>rw[hi]at hl;simp at hl
  | [a]=>rw[hi,List.length_singleton]at hl;omega
  | a :: b :: r=>
   have ha:=sub a (by rw[hi];simp);have hb:=sub b (by rw[hi];simp);rw[e,hi,List.flatMap_cons,List.flatMap_cons,List.length_append,List.length_append,Nat.pow_succ];omega
theorem nodup_few:∀ (m:Nat) (l:List Nat),l.Nodup→(∀ q∈l,q<m)→l.length≤m
 | 0,l,_,h=>by
  cases l with
  | nil=>simp
  | cons a r=>exact absurd (h a (by simp)) (by omega)
 | m+1,l,hn,h=>by
  by_cases hm:m∈l
  ·have h1:=nodup_few m (l.erase m) (hn.erase m) (fun q hq=>by
    obtain⟨a,b⟩:=hn.mem_erase_iff.1 hq
    have:=h q b
    omega)
   rw[List.length_erase_of_mem hm]at h1
   omega
  ·have h1:=nodup_few m l hn (fun q hq=>by
    have:=h q hq
    have:q≠m:=fun e=>hm (e▸hq)
    omega)
   omega
theorem tr_nodup{M:Pm}{d n:Nat}(h:Tr M d n):(pg M d n).Nodup:=List.nodup_iff_count.2 fun q=>by rw[h.cnt q];exact us_le M q
theorem tr_deep{M:Pm}{d n m:Nat}(h:Tr M d n)(hm:∀ k x,M k=some x→k<m)(hm2:m≤1024):d≤10:=by
 obtain⟨y,hy,a,_,wy⟩:=h.wf;have h1:=wf_pages d y wy a;have h2:=nodup_few m (pg M d n) (tr_nodup h) (fun q hq=>by
  have:=h.cnt q
  have h3:=List.count_pos_iff.2 hq
  unfold us at this
  cases hq2:M q with
  | none=>rw[hq2]at this;simp at this;omega
  | some z=>exact hm q z hq2)
 rw[pg_some hy,List.length_cons]at h2;by_cases hd:d≤10
 ·exact hd
 ·have:2 ^ 11≤2 ^ d:=Nat.pow_le_pow_right (by decide) (by omega)
  omega
def Ord (l:List En):Prop:=l.Pairwise fun a b=>sl a.1 b.1=true
theorem con_ord:∀ {l:List Mk},l.Pairwise R→Ord (con l)
 | [],_=>List.Pairwise.nil
 | (k,none) :: r,h=>by
  rw[con_sep];exact con_ord (List.pairwise_cons.1 h).2
 | (k,some v) :: r,h=>by
  obtain⟨h1,h2⟩:=List.pairwise_cons.1 h;have e:con ((k,some v) :: r)=(k,v) :: con r:=by simp[con]
  rw[e];exact List.pairwise_cons.2 ⟨fun a ha=>R_e.1 (h1 _ (mem_con ha)),con_ord h2⟩
theorem filter_all{α:Type}{p:α→Bool}{l:List α}(h:∀ a∈l,p a=true):l.filter p=l:=List.filter_eq_self.2 h
theorem filter_none{α:Type}{p:α→Bool}{l:List α}(h:∀ a∈l,p a=false):l.filter p=[]:=List.filter_eq_nil_iff.2 fun a ha=>by rw[h a ha];decide
def su (f:Nat→Nat):Nat→Nat
 | 0=>0
 | m+1=>su f m+f m
theorem su_add(f g:Nat→Nat):∀ m,su (fun q=>f q+g q) m=su f m+su g m
 | 0=>rfl
 | m+1=>by simp only[su,su_add f g m];omega
theorem su_congr{f g:Nat→Nat}:∀ {m:Nat},(∀ q,q<m→f q=g q)→su f m=su g m
 | 0,_=>rfl
 | m+1,h=>by simp only[su];rw[su_congr (fun q hq=>h q (by omega)),h m (by omega)]
theorem su_one(a:Nat):∀ m,su (fun q=>if a=q then 1 else 0) m=if a<m then 1 else 0
 | 0=>rfl
 | m+1=>by
  simp only[su,su_one a m];by_cases h1:a<m
  ·rw[if_pos h1,if_neg (by omega),if_pos (by omega)]
  ·by_cases h2:a=m
   ·rw[if_neg h1,if_pos h2,if_pos (by omega)]
   ·rw[if_neg h1,if_neg h2,if_neg (by omega)]
theorem su_zero:∀ m,su (fun _=>0) m=0
 | 0=>rfl
 | m+1=>by simp only[su,su_zero m]
theorem su_count:∀ (l:List Nat) (m:Nat),su (fun q=>l.count q) m≤l.length∧((∀ q∈l,q<m)→su (fun q=>l.count q) m=l.length)
 | [],m=>by simp[su_zero]
 | a :: r,m=>by
  obtain⟨h1,h2⟩:=su_count r m;have e:su (fun q=>(a :: r).count q) m=su (fun q=>r.count q) m+(if a<m then 1 else 0):=by
   rw[← su_one a m,← su_add];exact su_congr fun q _=>by rw[List.count_cons];simp
  rw[e,List.length_cons];refine⟨by split <;> omega,fun h=>?_⟩;rw[h2 (fun q hq=>h q (List.mem_cons_of_mem _ hq)),if_pos (h a List.mem_cons_self)]
def pgs_of (M:Pm) (m:Nat):Nat:=su (us M) m
theorem tree_pages{M:Pm}{root:Int}{l:List En}(m:Nat)(h:Tree M root l):pgs_of M m≤2*l.length-1:=by
 rcases h with⟨_,rfl,hM⟩|⟨d,n,_,hT,rfl⟩
 ·unfold pgs_of
  rw[su_congr (g:=fun _=>0) (fun q _=>by unfold us;rw[hM q];rfl),su_zero];omega
 ·unfold pgs_of
  rw[su_congr (g:=fun q=>(pg M d n).count q) (fun q _=>(hT.cnt q).symm)];have h1:=(su_count (pg M d n) m).1;have h2:=hT.many.2;omega
theorem full_pages{M:Pm}{m:Nat}(h:∀ j,2≤j→j<m→(M j).isSome=true):m≤pgs_of M m+2:=by
 unfold pgs_of;have key:∀ k,k≤m→k≤su (us M) k+2:=by
  intro k;induction k with
  | zero=>intro _;omega
  | succ k ih=>
   intro hk;have:=ih (by omega);simp only[su];by_cases h2:2≤k
   ·have e:us M k=1:=by unfold us;rw[h k h2 (by omega)];rfl
    omega
   ·omega
 exact key m (Nat.le_refl _)
end Go.Proofs.YtafgecaeiodmiaaGreatDoor.B
namespace Go.Proofs.YtafgecaeiodmiaaGreatDoor.T
open Go.ChangeShapes Go.WideShapes Go.ChangeAt Go.RowKit
open B (En upd got Ord filter_all filter_none sl_asymm)
open N (Kept Own Rw blk ob sl sl_total sl_trans sl_irrefl seq_iff)
def prs (l:List En):List Value:=l.flatMap fun e=>[.string e.1,.string e.2.d]
theorem prs_append(a b:List En):prs (a++b)=prs a++prs b:=by simp[prs]
theorem prs_length:∀ l:List En,(prs l).length=l.length*2
 | []=>rfl
 | e :: r=>by
  have e1:prs (e :: r)=.string e.1 :: .string e.2.d :: prs r:=rfl;rw[e1,List.length_cons,List.length_cons,prs_length r,List.length_cons];omega
theorem prs_at:∀ {l:List En} {i:Nat} {e:En},l[i]? = some e→(prs l)[i*2]? = some (.string e.1)∧(prs l)[i*2+1]? = some (.string e.2.d)
 | [],i,e,h=>by simp at h
 | a :: r,0,e,h=>by simp at h;subst h;exact⟨rfl,rfl⟩
 | a :: r,i+1,e,h=>by
  have ih:=prs_at (l:=r) (i:=i) (e:=e) (by simpa using h);have e1:prs (a :: r)=.string a.1 :: .string a.2.d :: prs r:=rfl;rw[e1,show (i+1)*2=i*2+1+1 by omega,List.getElem?_cons_succ,List.getElem?_cons_succ,List.getElem?_cons_succ,List.getElem?_cons_succ];exact ih
structure Pt (k v:ByteArray) (l:List En) (i:Nat) (dn:Bool) (out:List En):Prop where
 out:(dn=false∧out=l.take i∧∀ e∈l.take i,sl e.1 k=true)∨(dn=true∧out=upd k [(k,⟨v,-1,0⟩)] (l.take i)∧∃ e∈l.take i,sl e.1 k=false)
theorem upd_low{k:ByteArray}{mid l:List En}(h:∀ e∈l,sl e.1 k=true):upd k mid l=l++mid:=by
 unfold upd;rw[filter_all h,filter_none (fun e he=>sl_asymm (h e he)),List.append_nil]
theorem upd_snoc{k:ByteArray}{mid l:List En}{x:En}(h:sl k x.1=true):upd k mid (l++[x])=upd k mid l++[x]:=by
 unfold upd;rw[List.filter_append,List.filter_append,List.filter_cons_of_neg (by rw[sl_asymm h];decide),List.filter_cons_of_pos (by rw[h])];simp
theorem upd_eq{k:ByteArray}{mid l:List En}{x:En}(h:x.1=k):upd k mid (l++[x])=upd k mid l:=by
 unfold upd;have e1:sl x.1 k=false:=by rw[h];exact sl_irrefl k
 have e2:sl k x.1=false:=by rw[h];exact sl_irrefl k
 rw[List.filter_append,List.filter_append,List.filter_cons_of_neg (by rw[e1];decide),List.filter_cons_of_neg (by rw[e2];decide)];simp
theorem take_more{l:List En}{i:Nat}{x:En}(h:l[i]? = some x):l.take (i+1)=l.take i++[x]:=by rw[List.take_add_one,h];rfl
theorem Pt.start(k v:ByteArray)(l:List En):Pt k v l 0 false []:=⟨.inl ⟨rfl,rfl,fun e h=>by simp at h⟩⟩
theorem Pt.below{k v:ByteArray}{l:List En}{i:Nat}{out:List En}{x:En}(h:Pt k v l i false out)(hx:l[i]? = some x)(hs:sl x.1 k=true):Pt k v l (i+1) false (out++[x]):=by
 rcases h.out with⟨_,rfl,h2⟩|⟨h0,_⟩
 ·refine⟨.inl ⟨rfl,(take_more hx).symm,fun e he=>?_⟩⟩
  rw[take_more hx]at he;rcases List.mem_append.1 he with h | h
  ·exact h2 e h
  ·simp at h;subst h;exact hs
 ·cases h0
theorem Pt.same{k v:ByteArray}{l:List En}{i:Nat}{out:List En}{x:En}(h:Pt k v l i false out)(hx:l[i]? = some x)(hs:x.1=k):Pt k v l (i+1) true (out++[(k,⟨v,-1,0⟩)]):=by
 rcases h.out with⟨_,rfl,h2⟩|⟨h0,_⟩
 ·refine⟨.inr ⟨rfl,?_,x,?_,by rw[hs];exact sl_irrefl k⟩⟩
  ·rw[take_more hx,upd_eq hs,upd_low h2]
  ·rw[take_more hx];simp
 ·cases h0
theorem Pt.above{k v:ByteArray}{l:List En}{i:Nat}{out:List En}{x:En}(h:Pt k v l i false out)(hx:l[i]? = some x)(hs:sl x.1 k=false)(hne:x.1≠k):Pt k v l (i+1) true (out++[(k,⟨v,-1,0⟩)]++[x]):=by
 rcases h.out with⟨_,rfl,h2⟩|⟨h0,_⟩
 ·refine⟨.inr ⟨rfl,?_,x,?_,hs⟩⟩
  ·rw[take_more hx,upd_snoc (sl_total hs hne),upd_low h2]
  ·rw[take_more hx];simp
 ·cases h0
theorem Pt.later{k v:ByteArray}{l:List En}{i:Nat}{out:List En}{x:En}(ho:Ord l)(h:Pt k v l i true out)(hx:l[i]? = some x):Pt k v l (i+1) true (out++[x]):=by
 rcases h.out with⟨h0,_⟩|⟨_,rfl,e,he,h2⟩
 ·cases h0
 ·have hlx:sl e.1 x.1=true:=by
   obtain⟨j,hj⟩:=List.getElem?_of_mem he;rw[List.getElem?_take]at hj;split at hj
   ·rename_i hji
    obtain⟨hil,hie⟩:=List.getElem?_eq_some_iff.1 hx;obtain⟨hjl,hje⟩:=List.getElem?_eq_some_iff.1 hj;have:=List.pairwise_iff_getElem.1 ho j i hjl hil hji;rwa [hie,hje]at this
   ·cases hj
  have hkx:sl k x.1=true:=by
   by_cases hk:e.1=k
   ·rw[← hk];exact hlx
   ·exact sl_trans (sl_total h2 hk) hlx
  refine⟨.inr ⟨rfl,?_,e,?_,h2⟩⟩
  ·rw[take_more hx,upd_snoc hkx]
  ·rw[take_more hx];exact List.mem_append_left _ he
theorem Pt.done{k v:ByteArray}{l out:List En}{i:Nat}(h:Pt k v l i true out)(hi:l.length≤i):out=upd k [(k,⟨v,-1,0⟩)] l:=by
 rcases h.out with⟨h0,_⟩|⟨_,rfl,_⟩
 ·cases h0
 ·rw[List.take_of_length_le hi]
theorem Pt.undone{k v:ByteArray}{l out:List En}{i:Nat}(h:Pt k v l i false out)(hi:l.length≤i):out++[(k,⟨v,-1,0⟩)]=upd k [(k,⟨v,-1,0⟩)] l:=by
 rcases h.out with⟨_,rfl,h2⟩|⟨h0,_⟩
 ·rw[List.take_of_length_le hi]at h2 ⊢
  rw[upd_low h2]
 ·cases h0
theorem two_cellsA(w:World)(a b:Value)(t:TypeId):∀ (j:Nat) (v:Value),[a,b][j]? = some v→(w.alloc (.cells #[a,b] t)).cell? ((⟨w.heap.size,0,none⟩:Addr).add j)=some v:=by
 intro j u hj;rw[Addr.add_lit,Nat.zero_add,cell_of_row _ _ _ _ _ _ (heap_alloc_new w (.cells #[a,b] t))];match j,hj with
 | 0,hj=>simpa using hj
 | 1,hj=>simpa using hj
 | j+2,hj=>simp at hj
theorem grown_own{w W W':World}{e:TypeId}{sz:Nat}{q:Option Addr}{m qc:Nat}{cs:List Value}(K:Kept w W)(O:Own W w.heap.size e sz q m qc cs)(hg:W.grownBy W' (Value.slice q m qc).ownBlock):Kept w W':=by
 rw[ob]at hg;refine N.grown_kept w K hg (Nat.le_refl _) fun k hk=>?_
 rcases O.cases with⟨rfl,_⟩|⟨g,cur,rfl,h1,_⟩
 ·cases hk
 ·simp[blk]at hk;omega
structure Pl (w:World) (p:Option Addr) (n:Nat) (l:List En):Prop where
 len:l.length=n
 out:∃ b off,(0<n→p=some ⟨b,off,none⟩)∧∀ i e,l[i]? = some e→w.cell? ⟨b,off+i*2,none⟩=some (.string e.1)∧w.cell? ⟨b,off+i*2+1,none⟩=some (.string e.2.d)
theorem Pl.of{w:World}{p:Option Addr}{n c:Nat}{l:List En}(h:Rw w 2 p n c (prs l)):Pl w p n l:=by
 have hl:l.length=n:=by have:=h.len;rw[prs_length]at this;omega
 refine⟨hl,?_⟩;rcases h.out with⟨rfl,rfl⟩|⟨b,off,rfl,hc⟩
 ·refine⟨0,0,fun h=>absurd h (by omega),fun i e he=>?_⟩
  rw[List.length_eq_zero_iff.1 hl]at he;simp at he
 ·refine⟨b,off,fun _=>rfl,fun i e he=>?_⟩
  obtain⟨a1,a2⟩:=prs_at he;exact⟨hc _ _ a1,by rw[Nat.add_assoc];exact hc _ _ a2⟩
theorem info39:(Tryz.prog.info? 39).map (fun i=>(i.zero,i.size,i.bytes))=some (some (.agg #[.string ⟨#[]⟩,.string ⟨#[]⟩]),2,32):=by kernel_rfl
theorem own_pairs{W:World}{B:Nat}{q:Option Addr}{m qc:Nat}{out:List En}{x:En}(h:W.ownsRow B 39 2 (.slice q m qc) m (prs out++[.string x.1,.string x.2.d])):Own W B 39 2 q m qc (prs (out++[x])):=⟨by rw[prs_append];exact h⟩
set_option maxRecDepth 100000 in
set_option maxHeartbeats 2000000 in
theorem ref_put{w:World}{p:Option Addr}{n c:Nat}{l:List En}(h:Rw w 2 p n c (prs l))(ho:Ord l)(hn:n≤1000)(k v:ByteArray) :
  Calls Tryz.prog 23 #[.slice p n c,.string k,.string v] w fun e w'=>∃ p' n' c',e=.returned (.slice p' n' c')∧Own w' w.heap.size 39 2 p' n' c' (prs (upd k [(k,⟨v,-1,0⟩)] l))∧Kept w w':=by
 obtain⟨i42,hi,hz0,hz1,hz2⟩:=info_parts info39;obtain⟨hl,b,off,hat,hcl⟩:=Pl.of h;have HL:Hid (l.length=n):=hl;have HO:Hid (Ord l):=ho;have AT:Hid (0<n→p=some ⟨b,off,none⟩):=hat;have HC:Hid (∀ i e,l[i]? = some e→w.cell? ⟨b,off+i*2,none⟩=some (.string e.1)∧w.cell? ⟨b,off+i*2+1,none⟩=some (.string e.2.d)):=hcl;have S0:Hid (Own (w.alloc (.cells #[] 39)) w.heap.size 39 2 (some ⟨w.heap.size,0,none⟩) 0 0 (prs [])):=⟨World.ownsRow_made w #[] 0 (Nat.le_refl _) (Nat.zero_le _) rfl⟩;have K0:Hid (Kept w (w.alloc (.cells #[] 39))):=(Kept.refl w).alloc _;clear hl ho hat hcl h;go_enter Tryz.func23,Tryz.ntmps23;go_wp2;go_loopg [7,8,9] n (fun gg ov dv iv wx=>∃ (i m qc:Nat) (q:Option Addr) (dn:Bool) (out:List En),ov=.slice q m qc∧dv=.bool dn∧iv=.int .i64 (i:Nat)∧Hid (gg=n-i)∧i≤n∧Hid (m≤i+dn.toNat)∧Hid (Own wx w.heap.size 39 2 q m qc (prs out))∧Hid (Kept w wx)∧Hid (Pt k v l i dn out));case atStart=>exact⟨0,0,0,_,false,[],rfl,rfl,rfl,rfl,Nat.zero_le _,Nat.zero_le _,S0,K0,Pt.start k v l⟩
 case round=>
  obtain⟨i,m,qc,q,dn,out,rfl,rfl,rfl,hg,hin,HMM,O,K,P⟩:=hrel;clear S0 K0;by_cases h1:(i:Int)<(n:Int)
  ·obtain rfl:=AT.out (by omega)
   obtain⟨x,hx⟩:∃ x,l[i]? = some x:=⟨_,List.getElem?_eq_getElem (by rw[HL.out];omega)⟩;have HX:Hid (l[i]? = some x):=hx;obtain⟨c0',c1'⟩:=HC.out i x hx;have c0:=K.out.cell c0';have c1:=K.out.cell c1';clear c0' c1' hx;cases dn with
   | true=>
    have hm:m≤i+1:=HMM.out;go_wp2_with (at_builtin;refine wpList_append_own _ rfl _ _ 25 rfl w.heap.size 39 i42 _ 2 32 Tryz.underlying25 hi hz0 hz1 hz2 rfl (by decide) (.slice q m qc) m (prs out) rfl (O.out.kept ((Kept.refl wr).alloc (.cells #[.string x.1,.string x.2.d] 39))).out ⟨wr.heap.size,0,none⟩ 1 1 [.string x.1,.string x.2.d] rfl rfl (two_cellsA wr _ _ 39) (by intro u hu;simp at hu;rcases hu with rfl | rfl <;> rfl) (by unfold maxLen;omega) (by omega) (Nat.le_trans K.out.size ((Kept.refl wr).alloc (.cells #[.string x.1,.string x.2.d] 39)).size) ?_;intro v' w5 o5 g5 _;obtain⟨kq,c5,rfl⟩:=N.owns_shape o5;have O5:Hid (Own w5 w.heap.size 39 2 kq (m+1) c5 (prs (out++[x]))):=own_pairs o5;have K5:Hid (Kept w w5):=grown_own (K.out.trans ((Kept.refl wr).alloc _)) (O.out.kept ((Kept.refl wr).alloc _)) g5;clear o5 g5 O K);go_roundg (n-(i+1));case measure=>rw[hg.out];omega
    case rel=>exact⟨i+1,m+1,_,_,true,_,rfl,rfl,by go_num,rfl,by omega,(show m+1≤i+1+1 by omega),O5,K5,Pt.later HO.out P.out HX.out⟩
   | false=>
    have hm:m≤i:=HMM.out;by_cases hs:Op.bytesLess x.1.toList k.toList=true
    ·go_wp2_with (at_builtin;refine wpList_append_own _ rfl _ _ 25 rfl w.heap.size 39 i42 _ 2 32 Tryz.underlying25 hi hz0 hz1 hz2 rfl (by decide) (.slice q m qc) m (prs out) rfl (O.out.kept ((Kept.refl wr).alloc (.cells #[.string x.1,.string x.2.d] 39))).out ⟨wr.heap.size,0,none⟩ 1 1 [.string x.1,.string x.2.d] rfl rfl (two_cellsA wr _ _ 39) (by intro u hu;simp at hu;rcases hu with rfl | rfl <;> rfl) (by unfold maxLen;omega) (by omega) (Nat.le_trans K.out.size ((Kept.refl wr).alloc (.cells #[.string x.1,.string x.2.d] 39)).size) ?_;intro v' w5 o5 g5 _;obtain⟨kq,c5,rfl⟩:=N.owns_shape o5;have O5:Hid (Own w5 w.heap.size 39 2 kq (m+1) c5 (prs (out++[x]))):=own_pairs o5;have K5:Hid (Kept w w5):=grown_own (K.out.trans ((Kept.refl wr).alloc _)) (O.out.kept ((Kept.refl wr).alloc _)) g5;clear o5 g5 O K)
     go_roundg (n-(i+1));case measure=>rw[hg.out];omega
     case rel=>exact⟨i+1,m+1,_,_,false,_,rfl,rfl,by go_num,rfl,by omega,(show m+1≤i+1+0 by omega),O5,K5,P.out.below HX.out hs⟩
    ·have hs':Op.bytesLess x.1.toList k.toList=false:=by simpa using hs
     clear hs;by_cases he:x.1=k
     ·have HE:Hid (x.1=k):=he
      have he':(x.1.toList == k.toList)=true:=by rw[seq_iff];simpa using he
      clear he;go_wp2_with (at_builtin;refine wpList_append_own _ rfl _ _ 25 rfl w.heap.size 39 i42 _ 2 32 Tryz.underlying25 hi hz0 hz1 hz2 rfl (by decide) (.slice q m qc) m (prs out) rfl (O.out.kept ((Kept.refl wr).alloc (.cells #[.string k,.string v] 39))).out ⟨wr.heap.size,0,none⟩ 1 1 [.string k,.string v] rfl rfl (two_cellsA wr _ _ 39) (by intro u hu;simp at hu;rcases hu with rfl | rfl <;> rfl) (by unfold maxLen;omega) (by omega) (Nat.le_trans K.out.size ((Kept.refl wr).alloc (.cells #[.string k,.string v] 39)).size) ?_;intro v' w5 o5 g5 _;obtain⟨kq,c5,rfl⟩:=N.owns_shape o5;have O5:Hid (Own w5 w.heap.size 39 2 kq (m+1) c5 (prs (out++[(k,⟨v,-1,0⟩)]))):=own_pairs (x:=(k,⟨v,-1,0⟩)) o5;have K5:Hid (Kept w w5):=grown_own (K.out.trans ((Kept.refl wr).alloc _)) (O.out.kept ((Kept.refl wr).alloc _)) g5;have c05:w5.cell? ⟨b,off+i*2,none⟩=some (.string x.1):=K5.out.cell (HC.out i x HX.out).1;have c15:w5.cell? ⟨b,off+i*2+1,none⟩=some (.string x.2.d):=K5.out.cell (HC.out i x HX.out).2;clear o5 g5 O K);go_roundg (n-(i+1));case measure=>rw[hg.out];omega
      case rel=>exact⟨i+1,m+1,_,_,true,_,rfl,rfl,by go_num,rfl,by omega,(show m+1≤i+1+1 by omega),O5,K5,P.out.same HX.out HE.out⟩
     ·have HE:Hid (¬ x.1=k):=he
      have he':(x.1.toList == k.toList)=false:=by rw[seq_iff];simpa using he
      clear he;go_wp2_with (first
       | (at_builtin;refine wpList_append_own _ rfl _ _ 25 rfl w.heap.size 39 i42 _ 2 32 Tryz.underlying25 hi hz0 hz1 hz2 rfl (by decide) (.slice q m qc) m (prs out) rfl (O.out.kept ((Kept.refl wr).alloc (.cells #[.string k,.string v] 39))).out ⟨wr.heap.size,0,none⟩ 1 1 [.string k,.string v] rfl rfl (two_cellsA wr _ _ 39) (by intro u hu;simp at hu;rcases hu with rfl | rfl <;> rfl) (by unfold maxLen;omega) (by omega) (Nat.le_trans K.out.size ((Kept.refl wr).alloc (.cells #[.string k,.string v] 39)).size) ?_;intro v' w5 o5 g5 _;obtain⟨kq,c5,rfl⟩:=N.owns_shape o5;have O5:Hid (Own w5 w.heap.size 39 2 kq (m+1) c5 (prs (out++[(k,⟨v,-1,0⟩)]))):=own_pairs (x:=(k,⟨v,-1,0⟩)) o5;have K5:Hid (Kept w w5):=grown_own (K.out.trans ((Kept.refl wr).alloc _)) (O.out.kept ((Kept.refl wr).alloc _)) g5;have c05:w5.cell? ⟨b,off+i*2,none⟩=some (.string x.1):=K5.out.cell (HC.out i x HX.out).1;have c15:w5.cell? ⟨b,off+i*2+1,none⟩=some (.string x.2.d):=K5.out.cell (HC.out i x HX.out).2;clear o5 g5 O K c0 c1)
       | (at_builtin;refine wpList_append_own _ rfl _ _ 25 rfl w.heap.size 39 i42 _ 2 32 Tryz.underlying25 hi hz0 hz1 hz2 rfl (by decide) (.slice kq (m+1) c5) (m+1) (prs (out++[(k,⟨v,-1,0⟩)])) rfl (O5.out.kept ((Kept.refl w5).alloc (.cells #[.string x.1,.string x.2.d] 39))).out ⟨w5.heap.size,0,none⟩ 1 1 [.string x.1,.string x.2.d] rfl rfl (two_cellsA w5 _ _ 39) (by intro u hu;simp at hu;rcases hu with rfl | rfl <;> rfl) (by unfold maxLen;omega) (by omega) (Nat.le_trans K5.out.size ((Kept.refl w5).alloc (.cells #[.string x.1,.string x.2.d] 39)).size) ?_;intro v6 w6 o6 g6 _;obtain⟨kq6,c6,rfl⟩:=N.owns_shape o6;have O6:Hid (Own w6 w.heap.size 39 2 kq6 (m+1+1) c6 (prs (out++[(k,⟨v,-1,0⟩)]++[x]))):=own_pairs o6;have K6:Hid (Kept w w6):=grown_own (K5.out.trans ((Kept.refl w5).alloc _)) (O5.out.kept ((Kept.refl w5).alloc _)) g6;clear o6 g6 O5 K5))
      go_roundg (n-(i+1));case measure=>rw[hg.out];omega
      case rel=>exact⟨i+1,m+1+1,_,_,true,_,rfl,rfl,by go_num,rfl,by omega,(show m+1+1≤i+1+1 by omega),O6,K6,P.out.above HX.out hs' HE.out⟩
  ·cases dn with
   | true=>
    go_wp2;go_ret;exact⟨q,m,qc,rfl,by rw[← P.out.done (by rw[HL.out];omega)];exact O.out,K.out⟩
   | false=>
    have hm:m≤i:=HMM.out;go_wp2_with (at_builtin;refine wpList_append_own _ rfl _ _ 25 rfl w.heap.size 39 i42 _ 2 32 Tryz.underlying25 hi hz0 hz1 hz2 rfl (by decide) (.slice q m qc) m (prs out) rfl (O.out.kept ((Kept.refl wr).alloc (.cells #[.string k,.string v] 39))).out ⟨wr.heap.size,0,none⟩ 1 1 [.string k,.string v] rfl rfl (two_cellsA wr _ _ 39) (by intro u hu;simp at hu;rcases hu with rfl | rfl <;> rfl) (by unfold maxLen;omega) (by omega) (Nat.le_trans K.out.size ((Kept.refl wr).alloc (.cells #[.string k,.string v] 39)).size) ?_;intro v' w5 o5 g5 _;obtain⟨kq,c5,rfl⟩:=N.owns_shape o5;have O5:Hid (Own w5 w.heap.size 39 2 kq (m+1) c5 (prs (out++[(k,⟨v,-1,0⟩)]))):=own_pairs (x:=(k,⟨v,-1,0⟩)) o5;have K5:Hid (Kept w w5):=grown_own (K.out.trans ((Kept.refl wr).alloc _)) (O.out.kept ((Kept.refl wr).alloc _)) g5;clear o5 g5 O K);go_ret;exact⟨kq,m+1,c5,rfl,by rw[← P.out.undone (by rw[HL.out];omega)];exact O5.out,K5.out⟩
open B (Pm Mk R Ah Be Pf WfN con con_append con_leaf con_sep mem_con leafm fmN fm fm_some fm_kid pre post plc plc_le plc_above stpAt nodeAt_some R_none R_se R_e Wf)
open N (Nd Vl Up fnd isk)
theorem pf_at{M:Pm}{d n:Nat}(hw:Wf M d n)(ho:(fm M d n).Pairwise R)(key:ByteArray):Pf M key d (stpAt M key n) [] []:=by
 obtain⟨y,hy,a,b,c⟩:=hw;have es:stpAt M key n=⟨n,y,plc y key⟩:=by unfold stpAt;rw[nodeAt_some hy]
 rw[fm_some hy]at ho;rw[es];exact⟨hy,a,b,c,rfl,(fun a ha=>by cases ha),(fun a ha=>by cases ha),by simpa using ho⟩
def frm (k:ByteArray) (l:List En):List En:=l.filter fun e=>!sl e.1 k
def abv (k:ByteArray) (Z:List Mk):Nat:=(Z.filter fun m=>sl k m.1).length
theorem frm_append(k:ByteArray)(a b:List En):frm k (a++b)=frm k a++frm k b:=by simp[frm]
theorem frm_none{k:ByteArray}{l:List En}(h:∀ e∈l,sl e.1 k=true):frm k l=[]:=by
 unfold frm;rw[List.filter_eq_nil_iff];intro e he;rw[h e he];decide
theorem frm_all{k:ByteArray}{l:List En}(h:∀ e∈l,sl e.1 k=false):frm k l=l:=by
 unfold frm;rw[List.filter_eq_self];intro e he;rw[h e he];rfl
theorem filter_le(p q:Mk→Bool)(h:∀ m,p m=true→q m=true):∀ Z:List Mk,(Z.filter p).length≤(Z.filter q).length
 | []=>Nat.le_refl _
 | m :: Z=>by
  have ih:=filter_le p q h Z;by_cases hp:p m=true
  ·rw[List.filter_cons_of_pos hp,List.filter_cons_of_pos (h m hp)]
   simp only[List.length_cons];omega
  ·rw[List.filter_cons_of_neg hp]
   by_cases hq:q m=true
   ·rw[List.filter_cons_of_pos hq];simp only[List.length_cons];omega
   ·rw[List.filter_cons_of_neg hq];exact ih
theorem abv_lt{key b:ByteArray}{X C2:List Mk}(h:sl key b=true):abv b (X++(b,none) :: C2)<abv key (X++(b,none) :: C2):=by
 have hf:∀ m:Mk,sl b m.1=true→sl key m.1=true:=fun m hm=>sl_trans h hm
 have h1:=filter_le (fun m=>sl b m.1) (fun m=>sl key m.1) hf X;have h2:=filter_le (fun m=>sl b m.1) (fun m=>sl key m.1) hf C2;unfold abv;rw[List.filter_append,List.filter_append,List.length_append,List.length_append,List.filter_cons_of_neg (by simp[sl_irrefl]),List.filter_cons_of_pos (by exact h)];simp only[List.length_cons];omega
def Hd (C:List Mk) (b:ByteArray) (last:Bool):Prop:=(C=[]∧last=true)∨∃ C2,C=(b,none) :: C2∧last=false
theorem post_head(f:Nat→List Mk){K:List ByteArray}{I:List Int}{i:Nat}{k:ByteArray}(hk:K[i]? = some k)(hl:I.length=K.length+1):∃ C2,post f (K.drop i) (I.drop (i+1))=(k,none) :: C2:=by
 obtain⟨hi,rfl⟩:=List.getElem?_eq_some_iff.1 hk;have h2:i+1<I.length:=by omega
 rw[List.drop_eq_getElem_cons hi,List.drop_eq_getElem_cons h2];exact⟨_,by unfold post;rw[List.zip_cons_cons,List.flatMap_cons];rfl⟩
theorem post_nil(f:Nat→List Mk){K:List ByteArray}{I:List Int}{i:Nat}(h:K.length≤i):post f (K.drop i) I=[]:=by
 rw[List.drop_eq_nil_of_le h];rfl
structure Ps (M:Pm) (key:ByteArray) (Z:List Mk) (d:Nat) (n:Nat) (x:Nd) (b:ByteArray) (last:Bool):Prop where
 out:∃ A C,Pf M key d ⟨n,x,plc x key⟩ A C∧A++fmN M d x++C=Z∧Hd C b last
theorem Ps.mem{M:Pm}{key:ByteArray}{Z:List Mk}{d n:Nat}{x:Nd}{b:ByteArray}{last:Bool}(h:Ps M key Z d n x b last):M n=some x:=by
 obtain⟨A,C,p,_,_⟩:=h.out;exact p.mem
theorem Ps.good{M:Pm}{key:ByteArray}{Z:List Mk}{d n:Nat}{x:Nd}{b:ByteArray}{last:Bool}(h:Ps M key Z d n x b last):N.Good x:=by
 obtain⟨A,C,p,_,_⟩:=h.out;exact p.wf.good
theorem Ps.up{M:Pm}{key:ByteArray}{Z:List Mk}{d n:Nat}{x:Nd}{b:ByteArray}{last:Bool}(h:Ps M key Z d n x b last):Up x.ks:=by
 obtain⟨A,C,p,_,_⟩:=h.out;exact p.up
theorem Ps.leaf{M:Pm}{key:ByteArray}{Z:List Mk}{d n:Nat}{x:Nd}{b:ByteArray}{last:Bool}(h:Ps M key Z d n x b last):x.leaf=decide (d=0):=by
 obtain⟨A,C,p,_,_⟩:=h.out;exact p.wf.leaf
def nb (x:Nd) (key b:ByteArray):ByteArray:=(x.ks[plc x key]?).getD b
def nl (x:Nd) (key:ByteArray) (last:Bool):Bool:=if plc x key<x.ks.length then false else last
theorem Ps.start{M:Pm}{key:ByteArray}{d n:Nat}(hw:Wf M d n)(ho:(fm M d n).Pairwise R):∃ x,Ps M key (fm M d n) d n x ⟨#[]⟩ true:=by
 have p:=pf_at hw ho key;obtain⟨y,hy,_⟩:=hw;have es:stpAt M key n=⟨n,y,plc y key⟩:=by unfold stpAt;rw[nodeAt_some hy]
 rw[es]at p;exact⟨y,[],[],p,by rw[fm_some hy];simp,.inl ⟨rfl,rfl⟩⟩
theorem Ps.next{M:Pm}{key:ByteArray}{Z:List Mk}{d n:Nat}{x:Nd}{b:ByteArray}{last:Bool}(h:Ps M key Z (d+1) n x b last):∃ (c:Nat) (y:Nd),x.is[plc x key]? = some (c:Int)∧Ps M key Z d c y (nb x key b) (nl x key last):=by
 obtain⟨A,C,p,e,hd⟩:=h.out;obtain⟨c,hc,p2⟩:=p.next;have hc':x.is[plc x key]? = some c:=hc;obtain⟨y,hy,_⟩:=p.wf.2.2 _ (List.mem_of_getElem? hc');have hil:=(p.wf.2.1.li p.wf.1).1;have es:stpAt M key c.toNat=⟨c.toNat,y,plc y key⟩:=by unfold stpAt;rw[nodeAt_some hy]
 rw[es]at p2;have hcn:(c.toNat:Int)=c:=by
  obtain⟨q,rfl,_⟩:=p.wf.2.1.ik c (List.mem_of_getElem? hc');omega
 refine⟨c.toNat,y,by rw[hcn];exact hc',_,_,p2,?_,?_⟩
 ·rw[← e]
  show _=A++fmN M (d+1) x++C;rw[fm_kid p.wf.2.1 p.wf.1 hc',fm_some hy];simp
 ·show Hd (post (fm M d) (x.ks.drop (plc x key)) (x.is.drop (plc x key+1))++C) _ _
  by_cases hk:plc x key<x.ks.length
  ·obtain⟨k,hk2⟩:∃ k,x.ks[plc x key]? = some k:=⟨_,List.getElem?_eq_getElem hk⟩
   obtain⟨C2,hC⟩:=post_head (fm M d) hk2 hil;refine .inr ⟨C2++C,?_,by simp[nl,hk]⟩;rw[hC];simp[nb,hk2]
  ·have hkl:x.ks.length≤plc x key:=by omega
   rw[post_nil _ hkl];have e1:nb x key b=b:=by simp[nb,List.getElem?_eq_none hkl]
   have e2:nl x key last=last:=by simp[nl,hk]
   rw[e1,e2];exact hd
theorem Ps.below{M:Pm}{key:ByteArray}{Z:List Mk}{d n:Nat}{x:Nd}{b:ByteArray}(h:Ps M key Z (d+1) n x b false){k:ByteArray}(hk:x.ks[plc x key]? = some k):sl k b=true:=by
 obtain⟨A,C,p,e,hd⟩:=h.out;rcases hd with⟨_,h0⟩|⟨C2,rfl,_⟩
 ·cases h0
 ·obtain⟨c,hc,p2⟩:=p.next
  have ho:(A++fmN M (d+1) x++(b,none) :: C2).Pairwise R:=p.ord;have hil:=(p.wf.2.1.li p.wf.1).1;have hc':x.is[plc x key]? = some c:=hc;obtain⟨C3,hC⟩:=post_head (fm M d) hk hil;rw[fm_kid p.wf.2.1 p.wf.1 hc',hC]at ho;have:=(List.pairwise_append.1 ho).2.2 (k,none) (by simp) (b,none) (by simp);exact R_none.1 this
structure Sek (l:List En) (Z:List Mk) (key:ByteArray) (x:Nd) (b:ByteArray) (last:Bool):Prop where
 hd:(last=true∧frm key l=(x.ks.zip x.vs).drop (fnd key x.ks))∨(last=false∧frm key l=(x.ks.zip x.vs).drop (fnd key x.ks)++frm b l∧abv b Z<abv key Z)
 lt:last=false→∀ k∈x.ks,sl k b=true
 len:x.vs.length=x.ks.length
theorem frm_leaf{key:ByteArray}{ks:List ByteArray}{vs:List Vl}(hu:Up ks):frm key (ks.zip vs)=(ks.zip vs).drop (fnd key ks):=by
 have e:ks.zip vs=(ks.zip vs).take (fnd key ks)++(ks.zip vs).drop (fnd key ks):=(List.take_append_drop _ _).symm;conv=>lhs;rw[e]
 rw[frm_append,frm_none,frm_all,List.nil_append]
 ·intro e he
  obtain⟨j,hj⟩:=List.mem_iff_getElem?.1 he;rw[List.getElem?_drop]at hj;have hk:ks[fnd key ks+j]? = some e.1:=by
   rw[List.getElem?_zip_eq_some]at hj;exact hj.1
  obtain⟨hl,_⟩:=List.getElem?_eq_some_iff.1 hk;obtain⟨k0,hk0⟩:∃ k,ks[fnd key ks]? = some k:=⟨_,List.getElem?_eq_getElem (by omega)⟩;have h0:=N.fnd_at key ks k0 hk0;cases j with
  | zero=>rw[Nat.add_zero,hk0]at hk;cases hk;exact h0
  | succ j=>
   have hlt:sl k0 e.1=true:=N.up_at hu (by omega) hk0 hk;cases h1:sl e.1 key with
   | false=>rfl
   | true=>rw[sl_trans hlt h1]at h0;cases h0
 ·intro e he
  obtain⟨j,hj⟩:=List.mem_iff_getElem?.1 he;have hj2:j<fnd key ks:=by
   have:=(List.getElem?_eq_some_iff.1 hj).1;rw[List.length_take]at this;omega
  rw[List.getElem?_take_of_lt hj2,List.getElem?_zip_eq_some]at hj;exact N.fnd_below key ks j e.1 hj2 hj.1
theorem Ps.end_{M:Pm}{key:ByteArray}{Z:List Mk}{n:Nat}{x:Nd}{b:ByteArray}{last:Bool}(h:Ps M key Z 0 n x b last):Sek (con Z) Z key x b last:=by
 obtain⟨A,C,p,e,hd⟩:=h.out;have hu:Up x.ks:=h.up;have hlv:x.vs.length=x.ks.length:=(p.wf.2.lv p.wf.1).1;have ho:(A++leafm x++C).Pairwise R:=p.ord;have e2:A++leafm x++C=Z:=e;have hc:con Z=con A++x.ks.zip x.vs++con C:=by rw[← e2,con_append,con_append,con_leaf x]
 have h1:frm key (con A)=[]:=frm_none p.ah.con;have h2:frm key (con C)=con C:=frm_all fun e he=>sl_asymm (p.be.con e he)
 have h3:frm key (con Z)=(x.ks.zip x.vs).drop (fnd key x.ks)++con C:=by rw[hc,frm_append,frm_append,h1,h2,frm_leaf hu,List.nil_append]
 rcases hd with⟨rfl,rfl⟩|⟨C2,rfl,rfl⟩
 ·exact⟨.inl ⟨rfl,by rw[h3];simp[con]⟩,(fun h=>by cases h),hlv⟩
 ·have hA:∀ m∈A++leafm x,sl m.1 b=true:=fun m hm=>R_none.1 ((List.pairwise_append.1 ho).2.2 m hm (b,none) (by simp))
  have hC:∀ e∈con C2,sl e.1 b=false:=fun e he=>R_se.1 ((List.pairwise_cons.1 (List.pairwise_append.1 ho).2.1).1 _ (mem_con he))
  have hz:∀ e∈x.ks.zip x.vs,(e.1,some e.2)∈leafm x:=fun e he=>by
   unfold leafm;exact List.mem_map.2 ⟨e,he,rfl⟩
  have h4:frm b (con Z)=con C2:=by
   rw[hc,con_sep,frm_append,frm_append,frm_none (fun e he=>hA _ (List.mem_append_left _ (mem_con he))),frm_none (fun e he=>hA _ (List.mem_append_right _ (hz e he))),frm_all hC];rfl
  refine⟨.inr ⟨rfl,by rw[h3,h4,con_sep],?_⟩,fun _ k hk=>?_,hlv⟩
  ·rw[← e2]
   exact abv_lt (p.be (b,none) (by simp))
  ·obtain⟨j,hj⟩:=List.mem_iff_getElem?.1 hk
   obtain⟨hjl,_⟩:=List.getElem?_eq_some_iff.1 hj;have hv:x.vs[j]? = some (x.vs[j]'(by omega)):=List.getElem?_eq_getElem (by omega);have hm:(k,x.vs[j]'(by omega))∈x.ks.zip x.vs:=List.mem_iff_getElem?.2 ⟨j,by rw[List.getElem?_zip_eq_some];exact⟨hj,hv⟩⟩;exact hA _ (List.mem_append_right _ (hz _ hm))
end Go.Proofs.YtafgecaeiodmiaaGreatDoor.T