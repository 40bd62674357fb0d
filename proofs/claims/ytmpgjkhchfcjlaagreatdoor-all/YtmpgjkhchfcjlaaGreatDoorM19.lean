import Derived.Test.YtmpgjkhchfcjlaaGreatDoorM15
import Derived.Test.YtmpgjkhchfcjlaaGreatDoorM16
import Derived.ProofKit
import Derived.LaidMore
import Derived.Stop.Joined
import Derived.Deep.Strs
namespace Go.Proofs.YtmpgjkhchfcjlaaGreatDoor
open Go.RowKit
set_option maxHeartbeats 1000000
set_option maxRecDepth 100000
def mB (w:World)(B h fo:Nat)(l':List Int)(x':Int)(e:Ending)(w':World):Prop:=
 ∃g' cap',B≤g'∧e=.returned (.slice (some ⟨g',0,none⟩) l'.length cap')∧eM w' g' cap' l'∧Sd w' h fo x'∧SK B h fo w w'
structure Es (w:World) (B h fo g cap:Nat) (l:List Int) (x:Int) (n:Nat) (e:Ending) (w':World):Prop where
 Ks:e=.returned (.int .i64 (dr x n:Nat))
 txt:eM w' g cap l
 sd:Sd w' h fo (sd x)
 dY:SK B h fo w w'
structure uw (w:World) (B h fo g cap:Nat) (l:List Int) (a:Nat) (y:Int) (e:Ending) (w':World):Prop where
 Ks:e=.returned (.int .i64 (a:Nat))
 txt:eM w' g cap l
 sd:Sd w' h fo y
 dY:SK B h fo w w'
theorem Es.LP {w:World}{B h fo g cap:Nat}{l:List Int}{x:Int}{n:Nat}{e:Ending}{w':World}(d:Es w B h fo g cap l x n e w'):uw w B h fo g cap l (dr x n) (Go.Proofs.YtmpgjkhchfcjlaaGreatDoor.sd x) e w':=⟨d.Ks,d.txt,d.sd,d.dY⟩
theorem jc (w:World)(B h fo g cap:Nat)(l:List Int)(x:Int)(T:eM w g cap l)(s:Sd w h fo x)(hg:B≤g)(hh:h<B)(n:Nat)(h1:1≤n)(h2:n≤1000):
  Calls Tryz.prog 117 #[.pointer (some ⟨h,fo,none⟩),.int .i64 n] w (Es w B h fo g cap l x n):=by
 refine(sX w h fo x s n h1 h2).mono ?_
 rintro e w' ⟨rfl,rfl⟩
 exact⟨rfl,T.other (by show g≠h;omega) _,s.set _ (iA x).1 (iA x).2,SK.self B h fo w _⟩
theorem yS (w:World)(B h fo g cap:Nat)(l:List Int)(x:Int)(T:eM w g cap l)(s:Sd w h fo x)(hg:B≤g)(hL:l.length=24):
  Calls Tryz.prog 164 #[.slice (some ⟨g,0,none⟩) l.length cap,.pointer (some ⟨h,fo,none⟩)] w (mB w B h fo l x):=by
 rw[hL];go_in;go_wp2_with fail
 go_ret
 exact⟨g,cap,hg,by rw[hL];rfl,T,s,SK.refl _ _ _ _⟩
theorem Cn (w:World)(B h fo g cap:Nat)(l:List Int)(x:Int)(T:eM w g cap l)(s:Sd w h fo x)(hg:B≤g)(hh:h<B)(hL:l.length<24):
  Calls Tryz.prog 164 #[.slice (some ⟨g,0,none⟩) l.length cap,.pointer (some ⟨h,fo,none⟩)] w (mB w B h fo (l.take (dr x (l.length+1))++(dr (sd x) 256:Int)::l.drop (dr x (l.length+1))) (sd (sd x))):=by
 have hd1:=dP x (l.length+1) (by omega);have hd2:=dP (sd x) 256 (by omega);have H1:=hid (jc w B h fo g cap l x T s hg hh (l.length+1) (by omega) (by omega));generalize hLn:l.length=L at*;go_in;go_wp2_with fail
 refine H1.out.mono ?_;rintro e w1 ⟨rfl,T1,s1,B1⟩;clear H1;generalize dr x (L+1)=a at*;go_wp2_with fail
 refine(jc w1 B h fo g cap l (sd x) T1 s1 hg hh 256 (by omega) (by omega)).mono ?_
 rintro e w2 ⟨rfl,T2,s2,B2⟩;generalize dr (sd x) 256=v at*;have hg2:=T2.lt;have HB:=hid (B1.trans B2);have H3:Hid (Calls Tryz.prog 189 #[.slice (some ⟨g,0,none⟩) l.length cap,.int .i64 a,.slice (some ⟨w2.heap.size,0,none⟩) 1 1] (w2.alloc (.cells #[.int .u8 (v:Int)] 5)) (cD (w2.alloc (.cells #[.int .u8 (v:Int)] 5)) g (l.take a++(v:Int)::l.drop a))):=
  qR _ g cap a w2.heap.size l _ (T2.alloc _) (by omega) (by omega) ⟨Array.getElem?_push_size⟩ (by omega) (by omega) (by omega)
 rw[hLn]at H3;have HS:=hid s2;clear T1 s1 B1 T2 s2 B2
 obtain⟨lx,hlx⟩:∃lx,l.take a++(v:Int)::l.drop a=lx:=⟨_,rfl⟩
 rw[hlx]at H3;have HLX:=hid hlx;clear hlx;go_wp2_with fail
 refine H3.out.mono ?_;rintro e w3 ⟨g3,cap3,hg3,rfl,T3,B3⟩;have B3':Below g w2 w3:=((Below.refl _ _).alloc (by omega) _).trans B3;go_wp2_with fail
 go_ret;rw[HLX.out]
 exact⟨g3,cap3,by omega,rfl,T3,HS.out.below B3' (by omega),HB.out.trans (SK.dZ B3' hg hh)⟩
theorem qV (s:ByteArray):byteCells s=(nums s).map (Value.int .u8):=by simp[byteCells,nums]
theorem Hw (w:World)(g cap a b:Nat)(l:List Int)(o:ByteArray)(T:eM w g cap l)(ha:a≤l.length)(hb:b≤o.size)(hL:l.length≤24)(ho:o.size≤24):
  ∃w' g' cap',(∀ty,(Builtin.append_ #[39,9] ty #[.slice (some ⟨g,0,none⟩) a cap,.string (o.extract b o.size)]).run Tryz.prog w=.ok (.slice (some ⟨g',0,none⟩) (a+(o.size-b)) cap') w')∧g≤g'∧eM w' g' cap' (l.take a++(nums o).drop b)∧Below g w w'∧a+(o.size-b)≤cap':=by
 obtain⟨i0,hi0,hz0,hzs,hzb⟩:=lB
 have hle:=T.le;have hsz:(o.extract b o.size).size=o.size-b:=by
  rw[←af,aU,List.length_take,List.length_drop,af];omega
 have hn:nums (o.extract b o.size)=(nums o).drop b:=by
  rw[aU,List.take_of_length_le (by simp[af])]
 have hdl:((nums o).drop b).length=o.size-b:=by rw[List.length_drop,af]
 have hsrc:Src Tryz.prog i0.size 9 (.string (o.extract b o.size)) (o.size-b) (((nums o).drop b).map (Value.int .u8)) w:=by
  have:=Src.ofString (P:=Tryz.prog) w (tx:=9) Tryz.underlying9 (o.extract b o.size)
  rw[hsz,qV,hn]at this;rw[hzs];exact this
 by_cases hr:a+(o.size-b)≤cap
 ·refine⟨_,g,cap,fun ty=>run_append_room_src (w:=w) 39 9 ty 5 i0 Tryz.underlying39 hi0 g 0 a cap _ (o.size-b) _ hsrc hr (fun j hj=> ?_) (fun j hj=> ?_),Nat.le_refl _,?_,fe _ (Below.refl _ _),hr⟩
  ·rw[hzs,Nat.mul_one,Nat.zero_add];exact T.room _ (by simp[af]at hj;omega)
  ·rw[hzs,Nat.mul_one,Nat.zero_add];exact T.iy _ (by simp[af]at hj;omega)
  ·rw[hzs,Nat.mul_one,Nat.zero_add];have T2:=(T.put a ((nums o).drop b) ha (by rw[hdl];exact hr) ((bt o).drop b)).take (a+(o.size-b));rw[List.take_append_of_le_length (by rw[List.length_append,hdl,List.length_take];omega),List.take_of_length_le (by rw[List.length_append,hdl,List.length_take];omega)]at T2;exact T2
 ·have hold:(Builtin.firstCells i0.size a (.slice (some ⟨g,0,none⟩) a cap)).run Tryz.prog w.drew=.ok ((l.take a).map (Value.int .u8)).toArray w.drew:=by
   rw[hzs];exact run_firstCells_some w.drew 1 a ⟨g,0,none⟩ a cap ((l.take a).map (Value.int .u8)) (by simp;omega) (fun j u hj=>by
    rw[Addr.add_lit]
    exact((T.drew.take a).get 0 j u (by simpa using hj)))
  have hge:a+(o.size-b)≤grownCap w (a+(o.size-b)) cap 5:=grownCap_ge w _ _ _;have hmx:=grownCap_le_maxLen w (a+(o.size-b)) cap 5 (by unfold maxLen;omega)
  refine⟨_,w.heap.size,_,fun ty=>run_append_grow_src w 39 9 ty 5 i0 _ Tryz.underlying39 hi0 hz0 (some ⟨g,0,none⟩) a cap ((l.take a).map (Value.int .u8)) hold _ (o.size-b) _ hsrc (by omega) (by omega) (by rw[hzb];exact growslice_fits (by omega) (by omega)),Nat.le_of_lt T.lt,?_,((Below.refl _ _).drew.alloc (Nat.le_of_lt T.lt) _),hge⟩
  have e1:(l.take a++(nums o).drop b).length=a+(o.size-b):=by rw[List.length_append,hdl,List.length_take];omega
  have T2:=Aq w.drew (l.take a++(nums o).drop b) (grownCap w (a+(o.size-b)) cap 5-(a+(o.size-b))) ((T.wE.take a).app ((bt o).drop b)) (by rw[e1];unfold maxLen at hmx;omega);rw[e1,show a+(o.size-b)+(grownCap w (a+(o.size-b)) cap 5-(a+(o.size-b)))=grownCap w (a+(o.size-b)) cap 5 by omega,List.map_append]at T2;exact T2
theorem oL {ops:Array Oper}{o:Oper}{a:Act}{w:World}{K:Act→World→Prop}{Q:Exit→Act→World→Prop}{E:Prop}
  (hg:o.guard=none)(d x:Operand)(dT sT:TypeId)(hop:o.op=Op.call {callee:=Callee.builtin Builtin.append,args:=#[d,x],argTypes:=#[dT,sT]})
  (v u:Value)(hd:a.eval d=v)(hx:a.eval x=u){v':Value}{w':World}(hr:(Builtin.append_ #[dT,sT] o.type #[v,u]).run Tryz.prog w=.ok v' w')(hK:K (a.put o.dst v') w'):
  if Region.wanted o (yielded ops a.tmps)=true then Oper.wp Tryz.prog o a w K Q else E:=by
 have hw:Region.wanted o (yielded ops a.tmps)=true:=by simp[Region.wanted,hg]
 rw[if_pos hw];unfold Oper.wp;simp[execOp,hop,resolve,invoke,builtin,hd,hx,hr,Result.andThen];exact hK
theorem yT (w:World)(B h fo g cap:Nat)(l:List Int)(o:ByteArray)(a b:Nat)(y1 y2:Int)(ha:a≤l.length)(hb:b≤o.size)(hc:l.length≤cap)
  (H1:Hid (Calls Tryz.prog 117 #[.pointer (some ⟨h,fo,none⟩),.int .i64 ((l.length:Int)+1)] w (uw w B h fo g cap l a y1)))
  (H2:Hid (∀w1,eM w1 g cap l→Sd w1 h fo y1→Calls Tryz.prog 117 #[.pointer (some ⟨h,fo,none⟩),.int .i64 ((o.size:Int)+1)] w1 (uw w1 B h fo g cap l b y2)))
  (hg:B≤g)(hh:h<B)(hL:l.length≤24)(ho:o.size≤24):
  Calls Tryz.prog 165 #[.slice (some ⟨g,0,none⟩) l.length cap,.string o,.pointer (some ⟨h,fo,none⟩)] w (mB w B h fo ((l.take a++(nums o).drop b).take 24) y2):=by
 generalize hLn:l.length=L at*;go_in;go_wp2_with fail
 refine H1.out.mono ?_;rintro e w1 ⟨rfl,T1,s1,B1⟩;have H2':=hid (H2.out w1 T1 s1);go_wp2_with fail
 refine H2'.out.mono ?_;rintro e w2 ⟨rfl,T2,s2,B2⟩;have HB:=hid (B1.trans B2)
 obtain⟨w3,g3,cap3,hrun,hg3,T3,B3,hc3⟩:=Hw w2.drew g cap a b l o T2.drew (by omega) (by omega) (by omega) (by omega)
 have hm3:=T3.most;have HT:=hid T3;have HB3:Hid (Below g w2 w3):=(Below.refl _ _).drew.trans B3;have HS:=hid s2;have hai:(a:Int)≤(cap:Int):=by omega
 have hbi:(b:Int)≤(o.size:Int):=by omega
 have ha0:(0:Int)≤(a:Int):=by omega
 have hb0:(0:Int)≤(b:Int):=by omega
 have HO:Hid (b≤o.size∧o.size≤24∧a≤L∧L≤24):=⟨by omega,by omega,by omega,by omega⟩;have HC:Hid (a+(o.size-b)≤cap3∧cap3≤9223372036854775807):=⟨hc3,hm3⟩;clear T1 s1 B1 T2 s2 B2 T3 B3 hc3 hm3 H1 H2 H2';go_wp2_with fail
 go_region_law(refine oL rfl (.tmp 22) (.tmp 25) 39 9 rfl (.slice (some ⟨g,0,none⟩) a cap) (.string (o.extract b o.size)) (by simp[Act.eval,Act.put]) (by simp[Act.eval,Act.put]) (hrun _) ?_)
 clear hrun hai hbi ha0 hb0;have hN:a+(o.size-b)≤48:=by have:=HO.out;omega
 have hNc:=HC.out.1;have hm3:=HC.out.2;have HNE:Hid ((l.take a++(nums o).drop b).length=a+(o.size-b)):=by
  have:=HO.out
  show _=_;rw[List.length_append,List.length_take,List.length_drop,af,hLn];omega
 generalize hNN:a+(o.size-b)=N at hN hNc⊢;have HNN:=hid hNN;clear hNN;by_cases h24:N≤24
 ·have hmin:min (N:Int) 24=(N:Int):=by omega
  go_wp2_with fail
  go_ret;have e:(l.take a++(nums o).drop b).take 24=l.take a++(nums o).drop b:=List.take_of_length_le (by rw[HNE.out,HNN.out];exact h24);rw[e]
  exact⟨g3,cap3,by omega,by rw[HNE.out,HNN.out];rfl,HT.out,HS.out.below HB3.out (by omega),HB.out.trans (SK.dZ HB3.out hg hh)⟩
 ·have hmin:min (N:Int) 24=24:=by omega
  have hNc':(24:Int)≤(cap3:Int):=by omega
  go_wp2_with fail
  go_ret
  exact⟨g3,cap3,by omega,by rw[List.length_take,HNE.out,HNN.out,Nat.min_eq_left (by omega)];rfl,HT.out.take 24,HS.out.below HB3.out (by omega),HB.out.trans (SK.dZ HB3.out hg hh)⟩
theorem Co (w:World)(B h fo g cap:Nat)(l:List Int)(o:ByteArray)(x:Int)(T:eM w g cap l)(s:Sd w h fo x)(hg:B≤g)(hh:h<B)(hL:l.length≤24)(ho:o.size≤24):
  Calls Tryz.prog 165 #[.slice (some ⟨g,0,none⟩) l.length cap,.string o,.pointer (some ⟨h,fo,none⟩)] w (mB w B h fo ((l.take (dr x (l.length+1))++(nums o).drop (dr (sd x) (o.size+1))).take 24) (sd (sd x))):=
 yT w B h fo g cap l o (dr x (l.length+1)) (dr (sd x) (o.size+1)) (sd x) (sd (sd x)) (Nat.le_of_lt_succ (dP _ _ (Nat.succ_pos _))) (Nat.le_of_lt_succ (dP _ _ (Nat.succ_pos _))) T.le
  ((jc w B h fo g cap l x T s hg hh (l.length+1) (by omega) (by omega)).mono fun _ _ d=>d.LP)
  (fun w1 T1 s1=>(jc w1 B h fo g cap l (sd x) T1 s1 hg hh (o.size+1) (by omega) (by omega)).mono fun _ _ d=>d.LP) hg hh hL ho
section
variable (w:World) (B h fo g cap:Nat) (l:List Int) (o:ByteArray) (hg:B≤g) (hh:h<B) (hL:l.length≤24)
include hg hh hL
omit hL hh in
theorem yU (k:Nat)(hk:k=0∨k=1∨k=2∨k=5)(h0:l.length=0)(y1:Int)
  (H0:Hid (Calls Tryz.prog 117 #[.pointer (some ⟨h,fo,none⟩),.int .i64 6] w (uw w B h fo g cap l k y1))):
  Calls Tryz.prog 118 #[.slice (some ⟨g,0,none⟩) l.length cap,.string o,.pointer (some ⟨h,fo,none⟩)] w (mB w B h fo l y1):=by
 rw[h0];go_in;go_wp2_with fail
 refine H0.out.mono ?_;rintro e w1 ⟨rfl,T1,s1,B1⟩;rcases hk with rfl|rfl|rfl|rfl;all_goals
  go_wp2_with fail
  go_ret
  exact⟨g,cap,hg,by rw[h0];rfl,T1,s1,B1⟩
theorem Et (a:Nat)(ha:a<8*l.length)(y1 y2:Int)
  (H0:Hid (Calls Tryz.prog 117 #[.pointer (some ⟨h,fo,none⟩),.int .i64 6] w (uw w B h fo g cap l 0 y1)))
  (H1:Hid (∀w1,eM w1 g cap l→Sd w1 h fo y1→Calls Tryz.prog 117 #[.pointer (some ⟨h,fo,none⟩),.int .i64 ((8:Int)*(l.length:Int))] w1 (uw w1 B h fo g cap l a y2))):
  Calls Tryz.prog 118 #[.slice (some ⟨g,0,none⟩) l.length cap,.string o,.pointer (some ⟨h,fo,none⟩)] w (mB w B h fo (e9 l a) y2):=by
 have hne:¬((l.length:Int)=0):=by omega
 generalize hLn:l.length=L at H1 hne ha hL⊢;go_in;go_wp2_with fail
 refine H0.out.mono ?_;rintro e w1 ⟨rfl,T1,s1,B1⟩;have H1':=hid (H1.out w1 T1 s1);go_wp2_with fail
 refine H1'.out.mono ?_;rintro e w2 ⟨rfl,T2,s2,B2⟩;have H3:=hid (kC w2 g cap l T2 (by omega) a (by omega));rw[hLn]at H3;go_wp2_with fail
 refine H3.out.mono ?_;rintro e w3 ⟨g3,cap3,hg3,rfl,T3,B3⟩
 obtain⟨n,hn⟩:∃n,(e9 l a).length=n:=⟨_,rfl⟩
 rw[hn];go_wp2_with fail
 go_ret
 exact⟨g3,cap3,by omega,by rw[hn];rfl,T3,s2.below B3 (by omega),(B1.trans B2).trans (SK.dZ B3 hg hh)⟩
omit hL in
theorem Cp (a b:Nat)(ha:a<l.length)(hb:b<256)(y1 y2 y3:Int)
  (H0:Hid (Calls Tryz.prog 117 #[.pointer (some ⟨h,fo,none⟩),.int .i64 6] w (uw w B h fo g cap l 1 y1)))
  (H1:Hid (∀w1,eM w1 g cap l→Sd w1 h fo y1→Calls Tryz.prog 117 #[.pointer (some ⟨h,fo,none⟩),.int .i64 (l.length:Int)] w1 (uw w1 B h fo g cap l a y2)))
  (H2:Hid (∀w1,eM w1 g cap l→Sd w1 h fo y2→Calls Tryz.prog 117 #[.pointer (some ⟨h,fo,none⟩),.int .i64 256] w1 (uw w1 B h fo g cap l b y3))):
  Calls Tryz.prog 118 #[.slice (some ⟨g,0,none⟩) l.length cap,.string o,.pointer (some ⟨h,fo,none⟩)] w (mB w B h fo (l.set a (b:Int)) y3):=by
 have hne:¬((l.length:Int)=0):=by omega
 generalize hLn:l.length=L at H1 hne ha⊢;go_in;go_wp2_with fail
 refine H0.out.mono ?_;rintro e w1 ⟨rfl,T1,s1,B1⟩;have H1':=hid (H1.out w1 T1 s1);go_wp2_with fail
 refine H1'.out.mono ?_;rintro e w2 ⟨rfl,T2,s2,B2⟩;have H2':=hid (H2.out w2 T2 s2);go_wp2_with fail
 refine H2'.out.mono ?_;rintro e w3 ⟨rfl,T3,s3,B3⟩;have hc:=T3.at a (by omega);have hc1:=hc.1;have hc2:=hc.2;have hai:(a:Int)<(L:Int):=by omega
 have HT:=T3.set a (b:Int) (by omega) (by omega) (by omega);have hg3:=T3.lt;generalize l.getD a 0=xa at hc1;clear hc T1 T2 s1 s2 H1 H2 H1' H2' H0;go_wp2_with fail
 go_ret
 exact⟨g,cap,hg,by rw[List.length_set,hLn];rfl,HT,s3.of_block (Below.heap_setCell _ _ _ _ (by show h≠g;omega)),((B1.trans B2).trans B3).put hg hh a _⟩
theorem Eu (a:Nat)(ha:a<l.length)(y1 y2:Int)
  (H0:Hid (Calls Tryz.prog 117 #[.pointer (some ⟨h,fo,none⟩),.int .i64 6] w (uw w B h fo g cap l 2 y1)))
  (H1:Hid (∀w1,eM w1 g cap l→Sd w1 h fo y1→Calls Tryz.prog 117 #[.pointer (some ⟨h,fo,none⟩),.int .i64 (l.length:Int)] w1 (uw w1 B h fo g cap l a y2))):
  Calls Tryz.prog 118 #[.slice (some ⟨g,0,none⟩) l.length cap,.string o,.pointer (some ⟨h,fo,none⟩)] w (mB w B h fo (mA l a) y2):=by
 have hne:¬((l.length:Int)=0):=by omega
 generalize hLn:l.length=L at H1 hne ha hL⊢;go_in;go_wp2_with fail
 refine H0.out.mono ?_;rintro e w1 ⟨rfl,T1,s1,B1⟩;have H1':=hid (H1.out w1 T1 s1);go_wp2_with fail
 refine H1'.out.mono ?_;rintro e w2 ⟨rfl,T2,s2,B2⟩;have H3:=hid (pE w2 g cap l T2 (by omega) a (by omega));rw[hLn]at H3;go_wp2_with fail
 refine H3.out.mono ?_;rintro e w3 ⟨g3,cap3,hg3,rfl,T3,B3⟩
 obtain⟨n,hn⟩:∃n,(mA l a).length=n:=⟨_,rfl⟩
 rw[hn];go_wp2_with fail
 go_ret
 exact⟨g3,cap3,by omega,by rw[hn];rfl,T3,s2.below B3 (by omega),(B1.trans B2).trans (SK.dZ B3 hg hh)⟩
omit hg hh hL in
theorem Av (l':List Int)(y1 y2:Int)
  (H0:Hid (Calls Tryz.prog 117 #[.pointer (some ⟨h,fo,none⟩),.int .i64 6] w (uw w B h fo g cap l 3 y1)))
  (H1:Hid (∀w1,eM w1 g cap l→Sd w1 h fo y1→Calls Tryz.prog 164 #[.slice (some ⟨g,0,none⟩) l.length cap,.pointer (some ⟨h,fo,none⟩)] w1 (mB w1 B h fo l' y2))):
  Calls Tryz.prog 118 #[.slice (some ⟨g,0,none⟩) l.length cap,.string o,.pointer (some ⟨h,fo,none⟩)] w (mB w B h fo l' y2):=by
 generalize hLn:l.length=L at H1⊢;go_in;go_wp2_with fail
 refine H0.out.mono ?_;rintro e w1 ⟨rfl,T1,s1,B1⟩;have H1':=hid (H1.out w1 T1 s1);by_cases h0:(L:Int)=0;all_goals
  go_wp2_with fail
  refine H1'.out.mono ?_;rintro e w3 ⟨g3,cap3,hg3,rfl,T3,s3,B3⟩;go_wp2_with fail
  go_ret
  exact⟨g3,cap3,hg3,rfl,T3,s3,B1.trans B3⟩
omit hg hh hL in
theorem yV (l':List Int)(y1 y2:Int)
  (H0:Hid (Calls Tryz.prog 117 #[.pointer (some ⟨h,fo,none⟩),.int .i64 6] w (uw w B h fo g cap l 4 y1)))
  (H1:Hid (∀w1,eM w1 g cap l→Sd w1 h fo y1→Calls Tryz.prog 165 #[.slice (some ⟨g,0,none⟩) l.length cap,.string o,.pointer (some ⟨h,fo,none⟩)] w1 (mB w1 B h fo l' y2))):
  Calls Tryz.prog 118 #[.slice (some ⟨g,0,none⟩) l.length cap,.string o,.pointer (some ⟨h,fo,none⟩)] w (mB w B h fo l' y2):=by
 generalize hLn:l.length=L at H1⊢;go_in;go_wp2_with fail
 refine H0.out.mono ?_;rintro e w1 ⟨rfl,T1,s1,B1⟩;have H1':=hid (H1.out w1 T1 s1);by_cases h0:(L:Int)=0;all_goals
  go_wp2_with fail
  refine H1'.out.mono ?_;rintro e w3 ⟨g3,cap3,hg3,rfl,T3,s3,B3⟩;go_wp2_with fail
  go_ret
  exact⟨g3,cap3,hg3,rfl,T3,s3,B1.trans B3⟩
omit hL in
theorem Cq (a b:Nat)(ha:a<l.length)(hb:b<l.length)(y1 y2 y3:Int)
  (H0:Hid (Calls Tryz.prog 117 #[.pointer (some ⟨h,fo,none⟩),.int .i64 6] w (uw w B h fo g cap l 5 y1)))
  (H1:Hid (∀w1,eM w1 g cap l→Sd w1 h fo y1→Calls Tryz.prog 117 #[.pointer (some ⟨h,fo,none⟩),.int .i64 (l.length:Int)] w1 (uw w1 B h fo g cap l a y2)))
  (H2:Hid (∀w1,eM w1 g cap l→Sd w1 h fo y2→Calls Tryz.prog 117 #[.pointer (some ⟨h,fo,none⟩),.int .i64 (l.length:Int)] w1 (uw w1 B h fo g cap l b y3))):
  Calls Tryz.prog 118 #[.slice (some ⟨g,0,none⟩) l.length cap,.string o,.pointer (some ⟨h,fo,none⟩)] w (mB w B h fo (l.set a (l.getD b 0)) y3):=by
 have hne:¬((l.length:Int)=0):=by omega
 generalize hLn:l.length=L at H1 H2 hne ha hb⊢;go_in;go_wp2_with fail
 refine H0.out.mono ?_;rintro e w1 ⟨rfl,T1,s1,B1⟩;have H1':=hid (H1.out w1 T1 s1);go_wp2_with fail
 refine H1'.out.mono ?_;rintro e w2 ⟨rfl,T2,s2,B2⟩;have H2':=hid (H2.out w2 T2 s2);go_wp2_with fail
 refine H2'.out.mono ?_;rintro e w3 ⟨rfl,T3,s3,B3⟩;have hc:=T3.at a (by omega);have hc1:=hc.1;have hc2:=hc.2;have hd1:=(T3.at b (by omega)).1;have hai:(a:Int)<(L:Int):=by omega
 have hbi:(b:Int)<(L:Int):=by omega
 have hby:=T3.wE.at b;have HT:=hid (T3.set a (l.getD b 0) (by omega) hby.1 hby.2);have hg3:=T3.lt;clear hby
 obtain⟨xb,hxb⟩:∃xb,l.getD b 0=xb:=⟨_,rfl⟩
 obtain⟨xa,hxa⟩:∃xa,l.getD a 0=xa:=⟨_,rfl⟩
 rw[hxb]at hd1 HT;rw[hxa]at hc1;have HX:=hid hxb;clear hc T1 T2 s1 s2 H1 H2 H1' H2' H0 hxb hxa T3;go_wp2_with fail
 go_ret;rw[HX.out]
 exact⟨g,cap,hg,by rw[List.length_set,hLn];rfl,HT.out,s3.of_block (Below.heap_setCell _ _ _ _ (by show h≠g;omega)),((B1.trans B2).trans B3).put hg hh a _⟩
end
theorem FK {w:World}{base:Nat}{e:TypeId}{v:Value}{N:Nat}{xs:List Value}(h:w.ownsRow base e 1 v N xs)(hN:0<N):
  ∃g cap,v=.slice (some ⟨g,0,none⟩) N cap∧base≤g∧N≤cap∧cap≤maxLen∧∀(i:Nat) (u:Value),xs[i]?=some u→w.cell? ⟨g,i,none⟩=some u:=by
 rcases h.2 with⟨_,h0⟩|⟨g,cap,cur,hv,hb,hh,hle,hcap,hcs,htake⟩
 ·omega
 ·refine⟨g,cap,hv,hb,hle,hcap,fun i u hx=> ?_⟩
  rw[cell_of_row w g _ _ _ _ hh];have hi:i<N:=by
   have h1:=(List.getElem?_eq_some_iff.1 hx).1;have h2:=h.1;omega
  have h2:(cur.toList.take (N*1))[i]?=some u:=by rw[htake];exact hx
  rw[List.getElem?_take,if_pos (by omega)]at h2;simpa using h2
theorem zY (w:World)(cb co L cap N:Nat)(c:Nat→Int)(V:VP c L N)(C:Laid w cb co L cap c)(hT:bK w):
  Calls Tryz.prog 28 #[.slice (some ⟨cb,co,none⟩) L cap] w fun e w'=>∃base W vc vf,w.heap.size≤W∧WR base W w' vc vf (bL c N L) (bf c N L)∧e=.returned (.tuple #[vc,vf,.int .i64 0])∧Below w.heap.size w w':=by
 go_in;go_wp2_with fail
 refine(mP w cb co L cap N c V C hT).mono ?_
 rintro e w1 ⟨rfl,B1⟩;go_wp2_with fail
 refine(rN w1 cb co L cap N c V (C.below B1) (hT.below B1)).mono ?_
 rintro e w2 ⟨base,W,vc,vf,hW,hR,rfl,B2⟩;have HR:=hid hR;clear hR;go_wp2_with fail
 refine bodyPost_ret (v:=.tuple #[vc,vf,.int .i64 0]) (by simp[results,Tryz.results28,go_sem]) rfl ?_
 exact⟨base,W,vc,vf,by have:=B1.size;omega,HR.out,rfl,B1.trans (B2.mono B1.size)⟩
theorem zZ (w:World)(v:Value)(L:Nat)(c:Nat→Int)(hby:∀i,i<L→0≤c i∧c i≤255)(C:b9 w v L c)(hT:bK w)(hbad:¬∃N,VP c L N):
  Calls Tryz.prog 28 #[v] w fun e w'=>e=.returned (.tuple #[.slice none 0 0,.slice none 0 0,.int .i64 1])∧Below w.heap.size w w':=by
 go_in;go_wp2_with fail
 refine(iX w v L c hby C hT).mono ?_
 rintro e w1 ⟨n,b,hC,rfl,B1⟩
 cases b with
 |true=>
  rcases hC with⟨h,_⟩|⟨_,hL,N,F,_⟩
  ·cases h
  ·exact absurd ⟨N,F.vp hL⟩ hbad
 |false=>
  go_wp2_with fail
  refine bodyPost_ret (v:=.tuple #[.slice none 0 0,.slice none 0 0,.int .i64 1]) (by simp[results,Tryz.results28,go_sem]) rfl ?_
  exact⟨rfl,B1⟩
structure Ma (w:World) (B g1 kD g2 cap2 Q:Nat) (d f:Nat→Int):Prop where
 code:Laid w g1 0 Q kD d
 from':∀i,i<Q→w.cell? ⟨g2,i,none⟩=some (.int .i64 (f i))
 b1:B≤g1
 b2:B≤g2
 ne:g1≠g2
 room:Q≤cap2
 lt:g2<w.heap.size
theorem WR.two {base W B:Nat}{w:World}{vc vf:Value}{c:Nat→Int}{N L:Nat}(h:WR base W w vc vf (bL c N L) (bf c N L))(hB:B≤W)(hQ:0<fG (aT c N) L):
  ∃g1 kD g2 cap2,vc=.slice (some ⟨g1,0,none⟩) (fG (aT c N) L) kD∧vf=.slice (some ⟨g2,0,none⟩) (fG (aT c N) L) cap2∧Ma w B g1 kD g2 cap2 (fG (aT c N) L) (pc c N L) (pf c N L):=by
 have h1:=h.bI;have h2:=h.bR;rw[iQ]at h1;rw[cr]at h2
 obtain⟨g1,kD,e1,b1,r1,m1,c1⟩:=FK h1 hQ
 obtain⟨g2,cap2,e2,b2,r2,m2,c2⟩:=FK h2 hQ
 have hlt:=h.lt;have hcell:∀i,i<fG (aT c N) L→w.cell? ⟨g2,i,none⟩=some (.int .i64 (pf c N L i)):=fun i hi=>c2 i _ (by
   rw[←cr c N L]at hi;rw[List.getElem?_map,List.getElem?_eq_getElem hi];unfold pf;rw[List.getD_eq_getElem?_getD,List.getElem?_eq_getElem hi];rfl)
 refine⟨g1,kD,g2,cap2,e1,e2,⟨fun i hi=> ?_,r1,m1,hQ⟩,hcell,by omega,by omega,?_,r2,block_lt_of_cell (hcell 0 hQ)⟩
 ·rw[Nat.zero_add];refine c1 i _ ?_;rw[←iQ c N L]at hi;rw[List.getElem?_map,List.getElem?_eq_getElem hi];unfold pc;rw[List.getD_eq_getElem?_getD,List.getElem?_eq_getElem hi];rfl
 ·have:=h.apart
  rw[e1,e2]at this;rcases this with h|h
  ·cases h
  ·intro e;exact h (by rw[e];rfl)
section
open Go.ChangeShapes Go.WideShapes Go.ChangeAt Go.WideMaps Go.WideElems Go.RowKit Go.Deep
theorem IE:(Rows.allRow.named.head?.bind fun s=>Tryz.prog.globalNamed s)=some 0:=by kernel_rfl
theorem IF:(Tryz.prog.globals[0]?).map (·.type)=some 219:=by kernel_rfl
theorem Tryz.lK:Tryz.prog.cellsOf 3=1:=by kernel_rfl
theorem Tryz.A7:Tryz.prog.cellsOf 176=3:=by kernel_rfl
theorem gG {cs:List Value}{r:Nat}{v:Value}(h:(cs.drop r).take 1=[v]):cs[r]?=some v:=by
 have:((cs.drop r).take 1)[0]?=some v:=by rw[h];rfl
 rw[List.getElem?_take,if_pos (by omega),List.getElem?_drop,Nat.add_zero]at this;exact this
theorem xR {H:Type}{enc:TypeId×Value→H}{W:World}{base:Nat}{spare:Nat→Bool}{held:Bool}{m:Nat}{cs:List Value}{x:DataW H×List MemPlace}{a b c:Int}
  (h:DataW.trod enc Tryz.prog W base spare held m 176 cs=some x)(hx:x.1=.agg [.lit (.int .i64 a),.lit (.int .i64 b),.lit (.int .i64 c)]):
  cs[0]?=some (.int .i64 a)∧cs[1]?=some (.int .i64 b)∧cs[2]?=some (.int .i64 c):=by
 obtain⟨y0,y1,y2,n,rfl,hlen,e0,e1,e2⟩:=trod_struct3 Tryz.underlying176 h
 simp only[Tryz.lK]at e0 e1 e2
 obtain⟨k0,c0,d0,_⟩:=DataW.trod_int Tryz.underlying3 e0
 obtain⟨k1,c1,d1,_⟩:=DataW.trod_int Tryz.underlying3 e1
 obtain⟨k2,c2,d2,_⟩:=DataW.trod_int Tryz.underlying3 e2
 rw[d0,d1,d2]at hx;simp only[DataW.agg.injEq,List.cons.injEq,DataW.lit.injEq,Lit.int.injEq,and_true,true_and]at hx
 obtain⟨rfl,rfl,rfl⟩:=hx
 exact⟨gG c0,gG c1,gG c2⟩
theorem IG : Tryz.prog.globalNamed "prowl/changes.marked" = some 1 := by kernel_rfl
theorem II:(Tryz.prog.globals[1]?).map (·.type)=some 243:=by kernel_rfl
theorem Tryz.cellsByte:Tryz.prog.cellsOf 5=1:=by kernel_rfl
theorem uY {W:World}{ps:List MemPlace}(h:DataW.LaidVars Tryz.prog W Rows.allRow.laid ps):bK W∧kT W:=by
 obtain⟨g0,t0,cs0,f0,p0,q0,hg0,ht0,hv0,hd0,hrest⟩:=h
 refine⟨?_,?_⟩
 ·clear hrest;obtain rfl:=Option.some.inj (IE.symm.trans hg0);obtain rfl:=Option.some.inj (IF.symm.trans ht0)
  obtain⟨xs,m1,rfl,hx,hlen,hn,hel⟩:=DataW.trod_array Tryz.underlying219 hd0
  simp only[Prod.mk.injEq]at hx;have hcell:=fun j=>World.var?_cell hg0 hv0 j
  intro k hk
  obtain⟨i,r,hr,rfl⟩:∃i r,r<3∧k=i*3+r:=⟨k/3,k%3,by omega,by omega⟩
  have hi:i<21:=by omega
  have hxi:(xs.map (·.1))[i]?=some (.agg [.lit (.int .i64 (aX (i*3))),.lit (.int .i64 (aX (i*3+1))),.lit (.int .i64 (aX (i*3+2)))]):=by
   have e:=hx.1.symm;unfold Rows.laid_prowl_program_shapes at e;simp only[DataW.agg.injEq]at e;rw[e];match i,hi with
   |0,_|1,_|2,_|3,_|4,_|5,_|6,_|7,_|8,_|9,_|10,_|11,_|12,_|13,_|14,_|15,_|16,_|17,_|18,_|19,_|20,_=>rfl
   |i+21,hi=>omega
  rw[List.getElem?_map,Option.map_eq_some_iff]at hxi
  obtain⟨x,hx1,hx2⟩:=hxi
  have he:=hel i hi;rw[hx1,Tryz.A7]at he
  obtain⟨a0,a1,a2⟩:=xR he hx2
  have hc:∀r,r<3→∀v,((cs0.toList.drop (i*3)).take 3)[r]?=some v→W.cell? ⟨0,i*3+r,none⟩=some v:=by
   intro r hr v hv;rw[List.getElem?_take,if_pos hr,List.getElem?_drop]at hv;rw[hcell];simpa using hv
  match r,hr with
  |0,_=>exact hc 0 (by omega) _ a0
  |1,_=>exact hc 1 (by omega) _ a1
  |2,_=>exact hc 2 (by omega) _ a2
  |r+3,hr=>omega
 ·obtain⟨⟨g1,t1,cs1,f1,p1,q1,hg1,ht1,hv1,hd1,_⟩,_⟩:=hrest
  clear hd0 hv0 ht0 hg0;obtain rfl:=Option.some.inj (IG.symm.trans hg1);obtain rfl:=Option.some.inj (II.symm.trans ht1)
  obtain⟨xs,m1,rfl,hx,hlen,hn,hel⟩:=DataW.trod_array Tryz.underlying243 hd1
  simp only[Prod.mk.injEq]at hx;have hcell:=fun j=>World.var?_cell hg1 hv1 j
  intro k hk;have hxi:(xs.map (·.1))[k]?=some (.lit (.int .u8 (nD k))):=by
   have e:=hx.1.symm;unfold Rows.laid_prowl_changes_marked at e;simp only[DataW.agg.injEq]at e;rw[e];match k,hk with
   |0,_|1,_|2,_|3,_|4,_=>rfl
   |k+5,hk=>omega
  rw[List.getElem?_map,Option.map_eq_some_iff]at hxi
  obtain⟨x,hx1,hx2⟩:=hxi
  have he:=hel k hk;rw[hx1,Tryz.cellsByte]at he
  obtain⟨k0,c0,d0,_⟩:=DataW.trod_int Tryz.underlying5 he
  rw[d0]at hx2;simp only[DataW.lit.injEq,Lit.int.injEq,true_and]at hx2;subst hx2;rw[hcell]
  have:=gG c0
  simpa using this
theorem og {W:World}(h:laidMetH Tryz.prog Rows.allRow.laid W):bK W∧kT W:=by
 rw[MakeChecks.laidMetH_plain _ _ _ (by kernel_rfl)]at h
 obtain⟨ps,h0,_⟩:=h
 exact uY h0
end
end Go.Proofs.YtmpgjkhchfcjlaaGreatDoor
