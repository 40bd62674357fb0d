import Derived.Test.YtmpgjkhchfcjlaaGreatDoorM45
namespace Go.Proofs.YtmpgjkhchfcjlaaGreatDoor
open Go.RowKit
set_option maxRecDepth 100000
set_option maxHeartbeats 8000000
theorem Calls.ex {P:Program}{f:FuncId}{args:Array Value}{w:World}{R:Ending→World→Prop}(h:Calls P f args w R):∃e w',R e w':=(h []).elim fun e r=>r.elim fun w' r=>r.elim fun _ r=>⟨e,w',r.1⟩
theorem AZ {w:World}{v:Value}{L:Nat}{c:Nat→Int}(hby:∀i,i<L→0≤c i∧c i≤255)(C:b9 w v L c)(hT:bK w):∃r b,cZ c L 80 19 r b:=by
 obtain⟨_,_,n,b,h,_⟩:=Calls.ex (iX w v L c hby C hT)
 rcases h with⟨_,h⟩|⟨_,h1,N,F,_⟩
 ·exact⟨n,true,h⟩
 ·exact⟨0,false,Or.inr ⟨h1,N,F.sp,Or.inr ⟨F.last,Or.inr ⟨F.ow,Or.inl ⟨rfl,rfl,F.DO⟩⟩⟩⟩⟩
theorem iP {c:Nat→Int}{L N N':Nat}(a:gq c L N 19)(b:gq c L N' 19):N=N':=SP.same b.sp b.last a.sp (Or.inl a.last)
theorem mg {b:Bool}{l:List ByteArray}{fuel:Int}(h:ez b l fuel=0):b=false∧l.length≤8∧(∀s∈l,s.size≤24)∧1≤fuel∧fuel≤500:=by
 unfold ez at h
 cases b with
 |true=>simp at h
 |false=>
  rw[if_neg (by decide)]at h;split at h
  ·cases h
  ·split at h
   ·cases h
   ·split at h
    ·cases h
    ·rename_i h1 h2 h3
     refine⟨rfl,by omega,fun s hs=>Classical.byContradiction fun c=>h2 (List.any_eq_true.2 ⟨s,hs,by simpa using c⟩),by omega,by omega⟩
theorem rF {w:World}{v:Value}{L:Nat}{c:Nat→Int}(C:b9 w v L c)(h:0<L):∃cb co cap,v=.slice (some ⟨cb,co,none⟩) L cap∧Laid w cb co L cap c:=by
 cases C with
 |bare p cap hv hL=>omega
 |full cb co cap hv C=>exact ⟨cb,co,cap,hv,C⟩
def Kh (c:Nat→Int)(L:Nat)(l:List ByteArray)(aa fuel:Int)(b:Bool)(w:World)(e:Ending)(w':World):Prop:=
 (ez b l fuel≠0∧e=.returned (.tuple #[.pointer none,.int .i64 (ez b l fuel)])∧Below w.heap.size w w')∨
  (ez b l fuel=0∧∃N H,uM ⟨c,L,N,fuel⟩∧e=.returned (.tuple #[.pointer (some ⟨H,0,none⟩),.int .i64 0])∧Made w ⟨c,L,N,fuel⟩ (bX (PG.R ⟨c,L,N,fuel⟩) (HS.zero aa) l) H w')
theorem uR {c:Nat→Int}{L r:Nat}{fuel:Int}(h:cZ c L 80 19 r false)(h1:1≤fuel)(h2:fuel≤500):∃N,uM ⟨c,L,N,fuel⟩∧0<L:=by
 obtain⟨_,hL,N,F⟩:=h.fine
 have V:=F.vp hL
 exact⟨N,⟨⟨V,h1,h2⟩,F⟩,by have:=V.lt V.one;omega⟩
theorem xJ (w:World)(v vf:Value)(L:Nat)(c:Nat→Int)(hby:∀i,i<L→0≤c i∧c i≤255)(C:b9 w v L c)(l:List ByteArray)(S:SL w vf l)(hls:∀s∈l,s.size≤9223372036854775807)(r:Nat)(b:Bool)(hF:cZ c L 80 19 r b)(aa fuel:Int)(s0:0≤aa)(s1:aa≤18446744073709551615)(hT:bK w)(hM:kT w)(h3:3≤w.heap.size):
  Calls Tryz.prog 37 #[v,vf,.int .u64 aa,.int .i64 fuel] w (Kh c L l aa fuel b w):=by
 by_cases h:ez b l fuel=0
 ·obtain⟨rfl,n2,n3,n4,n5⟩:=mg h
  obtain⟨N,P,hL⟩:=uR hF n4 n5
  obtain⟨cb,co,cap,rfl,C'⟩:=rF C hL
  exact(EY w cb co cap ⟨c,L,N,fuel⟩ P.ok C' vf l S n2 n3 aa s0 s1 hT hM h3).mono fun e w' ⟨H,h1,h2⟩=>Or.inr ⟨h,N,H,P,h1,h2⟩
 ·exact(FA w v vf L c hby C l S hls r b hF aa fuel h hT).mono fun e w' ⟨h1,h2⟩=>Or.inl ⟨h,h1,h2⟩
def Ki (c:Nat→Int)(L:Nat)(log:ByteArray)(aa fuel:Int)(b:Bool)(w:World)(e:Ending)(w':World):Prop:=
 (ez b [] fuel≠0∧e=.returned (.tuple #[.pointer none,.int .i64 0,.int .i64 (ez b [] fuel)])∧Below w.heap.size w w')∨
  (ez b [] fuel=0∧∃N,uM ⟨c,L,N,fuel⟩∧AX w.heap.size ⟨c,L,N,fuel⟩ aa log w e w')
theorem lI (w:World)(v:Value)(L:Nat)(c:Nat→Int)(hby:∀i,i<L→0≤c i∧c i≤255)(C:b9 w v L c)(log:ByteArray)(hlog:log.size≤9223372036854775806)(r:Nat)(b:Bool)(hF:cZ c L 80 19 r b)(aa fuel:Int)(s0:0≤aa)(s1:aa≤18446744073709551615)(hT:bK w)(hM:kT w)(h3:3≤w.heap.size):
  Calls Tryz.prog 40 #[v,.string log,.int .u64 aa,.int .i64 fuel] w (Ki c L log aa fuel b w):=by
 by_cases h:ez b [] fuel=0
 ·obtain⟨rfl,n2,n3,n4,n5⟩:=mg h
  obtain⟨N,P,hL⟩:=uR hF n4 n5
  obtain⟨cb,co,cap,rfl,C'⟩:=rF C hL
  exact(xH w cb co cap ⟨c,L,N,fuel⟩ P.ok C' log hlog aa s0 s1 hT hM h3).mono fun e w' h1=>Or.inr ⟨h,N,P,h1⟩
 ·exact(xI w v L c hby C log r b hF aa fuel h hT).mono fun e w' ⟨h1,h2⟩=>Or.inl ⟨h,h1,h2⟩
theorem WW.born {w w4 w6 w7:World}{A M L T:Nat}{L':Nat→Nat}{col:Nat→Nat}{ps:List PP}{C U V:Nat→Prop}{p:PP}{F:Nat→Value}{o:Obj}{v':Value}(h:WW w A M L T col ps)(b4:Below w.heap.size w w4)(sq:Sq (fun k=>col k=1) M L' w w6 C)(hL:∀r,L' r≤L+4)(s46:w4.heap.size≤w6.heap.size)
  (hU:∀k,U k∨V k→w.heap.size≤k∧k<w4.heap.size∧¬C k∧w6.heap[k]?=w4.heap[k]?)(hUV:∀k,U k→¬V k)
  (pg:uM p.g)(oh:jq p.g.R p.h)(tr:p.h.tries≤T+2000)(x:∃d,d.H=p.H∧HU w4 U d p.g p.h)(y:∃d,DU w4 V p.Y d p.g p.h)
  (f0:F 0=.pointer (some ⟨M,0,none⟩))(ob:OB wT A w6 F (fun _=>dW ps) (fun _=>ps.length))(hob:∀k,iB wT A F k→col k=2)
  (g7:(w6.alloc o).grownBy w7 (F 1).ownBlock)(r7:w7.ownsRow 0 51 2 v' (ps.length+1) (dW ps++[.pointer (some ⟨p.H,0,none⟩),.pointer (some ⟨p.Y,0,none⟩)]))(a7:v'.ownBlock=(F 1).ownBlock∨v'.ownBlock=some (w6.alloc o).heap.size):
  bC A M L T col w (.returned (.bool true)) (w7.setCell ⟨A,1,none⟩ v')∧Fr (fun k=>col k=1∨col k=2) w (w7.setCell ⟨A,1,none⟩ v'):=by
 have ob7:=(ob.alloc o).grow 1 rfl v' _ 1 g7 r7 a7;have f7:=(ob.alloc o).Hz (v':=v') 1 rfl g7;have s7:=f7.size;rw[World.size_alloc]at s7;have s4:=b4.size;have h3:=h.three
 obtain⟨w8,hw8⟩:∃w8,w8=w7.setCell ⟨A,1,none⟩ v':=⟨_,rfl⟩
 rw[←hw8]at ob7 f7 s7⊢;have b8:∀k,k<w6.heap.size→¬iB wT A F k→w8.heap[k]?=w6.heap[k]?:=fun k hk hn=>(f7.block k (by rw[World.size_alloc];omega) hn).trans (Below.heap_alloc w6 o k hk)
 have hobn:∀k,w.heap.size≤k→¬iB wT A F k:=fun k hk c=>by have:=(h.lt k (by rw[hob k c];decide)).1;omega
 have hCn:∀k,C k→¬iB wT A F k:=fun k hk c=>by
  have:=hob k c
  rcases sq.sub k hk with d|d
  ·omega
  ·exact hobn k d.1 c
 have hCl:∀k,C k→k<w6.heap.size∧(k<w.heap.size→col k=1):=fun k hk=>⟨(sq.bk.lt.1 k hk).1,fun q=>(sq.sub k hk).elim id (fun d=>by omega)⟩
 classical
 obtain⟨dm,hc⟩:∃dm:Nat→Nat,∀k,dm k=if k<w.heap.size then col k else if U k then 3+2*ps.length else if V k then 4+2*ps.length else if C k then 1 else if k<w8.heap.size then 2 else 0:=⟨_,fun _=>rfl⟩
 have c1:∀k,k<w.heap.size→dm k=col k:=fun k hk=>by rw[hc,if_pos hk]
 have cU:∀k,U k→dm k=3+2*ps.length:=fun k hk=>by rw[hc,if_neg (by have:=(hU k (Or.inl hk)).1;omega),if_pos hk]
 have cV:∀k,V k→dm k=4+2*ps.length:=fun k hk=>by rw[hc,if_neg (by have:=(hU k (Or.inr hk)).1;omega),if_neg (fun c=>hUV k c hk),if_pos hk]
 have cC:∀k,C k→dm k=1:=fun k hk=>by
  by_cases d:k<w.heap.size
  ·rw[c1 k d];exact(hCl k hk).2 d
  ·rw[hc,if_neg d,if_neg (fun c=>(hU k (Or.inl c)).2.2.1 hk),if_neg (fun c=>(hU k (Or.inr c)).2.2.1 hk),if_pos hk]
 have c2:∀k,w6.heap.size≤k→k<w8.heap.size→dm k=2:=fun k h1 h2=>by
  rw[hc,if_neg (by omega),if_neg (fun c=>by have:=(hU k (Or.inl c)).2.1;omega),if_neg (fun c=>by have:=(hU k (Or.inr c)).2.1;omega),if_neg (fun c=>by have:=(hCl k c).1;omega),if_pos h2]
 have r:Rc col dm (fun c=>c=1∨c=2) w w8:=⟨c1,fun k hk=>by
  by_cases d:k<w.heap.size
  ·rw[c1 k d]at hk;exact⟨by omega,(h.lt k hk).2⟩
  ·refine⟨Classical.byContradiction fun e=>hk ?_,by omega⟩
   rw[hc,if_neg d,if_neg (fun c=>by have:=(hU k (Or.inl c)).2.1;omega),if_neg (fun c=>by have:=(hU k (Or.inr c)).2.1;omega),if_neg (fun c=>by have:=(hCl k c).1;omega),if_neg e],by omega,fun k hk hn=>(b8 k (by omega) (fun c=>hn (Or.inr (hob k c)))).trans (sq.fr.block k hk (fun c=>hn (Or.inl c)))⟩
 obtain⟨t,m⟩:=h.tabs r (by omega)
 have frw:Fr (fun k=>col k=1∨col k=2) w w8:=(sq.fr.wide (fun k hk=>Or.inl hk)).trans (((Fr.below ((Below.refl _ _).alloc (Nat.le_refl _) o)).same f7).wide (fun k hk=>Or.inl (Or.inr (hob k hk))))
 refine⟨⟨rfl,frw.wide (fun k hk=>by omega),dm,ps++[p],⟨r.lt,(sq.bk.keep (by omega) (fun k hk=>b8 k (hCl k hk).1 (hCn k hk)) cC (fun k hk=>(r.lt k (by omega)).1) (fun k hk=>(r.lt k (by omega)).2)).more hL,?_,fun i u hu=> ?_,t,m,by rw[List.length_append];have:=h.len;show ps.length+1≤_;omega⟩,c1⟩,frw⟩
 ·have ep:dW (ps++[p])=dW ps++[.pointer (some ⟨p.H,0,none⟩),.pointer (some ⟨p.Y,0,none⟩)]:=by unfold dW;rw[List.flatMap_append];rfl
  refine⟨upd F 1 v',by rw[au _ _ (by decide)];exact f0,?_,fun k hk=> ?_⟩
  ·exact⟨ob7.cell,ob7.thaw,fun s hs=>by
    obtain rfl:s=1:=by simpa[wT]using hs
    have:=ob7.own 1 rfl
    rw[upd_same,upd_same]at this;rw[ep,List.length_append];exact this,ob7.apart,ob7.nM,ob7.lt,ob7.Ek⟩
  ·rcases iB.grow (w:=w6.alloc o) a7 rfl hk with c|c
   ·have:=hob k c
    rw[c1 k (h.lt k (by omega)).1];exact this
   ·exact c2 k (by rw[c,World.size_alloc];omega) (ob7.in hk)
 ·by_cases e:i<ps.length
  ·rw[List.getElem?_append_left e]at hu
   exact(h.pr i u hu).to h.lt r (by omega) (by omega) (by omega)
  ·rw[List.getElem?_append_right (by omega)]at hu;obtain rfl:u=p:=List.mem_singleton.1 (List.mem_of_getElem? hu)
   have:=(List.getElem?_eq_some_iff.1 hu).1
   obtain rfl:i=ps.length:=by simp at this;omega
   have hb:∀k,U k∨V k→w8.heap[k]?=w4.heap[k]?:=fun k hk=>by
    obtain⟨h1,h2,_,h4⟩:=hU k hk
    exact(b8 k (by omega) (hobn k h1)).trans h4
   obtain⟨d1,e1,g1⟩:=x
   obtain⟨d2,g2⟩:=y
   exact⟨pg,oh,tr,⟨d1,e1,g1.keep (fun k hk=>hb k (Or.inl hk)) cU (fun k hk=>(r.lt k (by omega)).1) (fun k hk=>(r.lt k (by omega)).2)⟩,d2,g2.keep (by omega) (fun k hk=>hb k (Or.inr hk)) cV (fun k hk=>(r.lt k (by omega)).1) (fun k hk=>(r.lt k (by omega)).2)⟩
def xK (o:Option (PG×HS))(w:World)(xo:Option Addr)(w':World):Prop:=
 Below w.heap.size w w'∧((o=none∧xo=none)∨∃g h H U d,o=some (g,h)∧xo=some ⟨H,0,none⟩∧d.H=H∧HU w' U d g h∧∀k,U k→w.heap.size≤k∧k<w'.heap.size)
def FB (o:Option (PG×HS))(w:World)(yo:Option Addr)(w':World):Prop:=
 Below w.heap.size w w'∧((o=none∧yo=none)∨∃g h Y V d,o=some (g,h)∧yo=some ⟨Y,0,none⟩∧DU w' V Y d g h∧∀k,V k→w.heap.size≤k∧k<w'.heap.size)
def Jd (o:Option (PG×HS)):Prop:=∀g h,o=some (g,h)→uM g∧jq g.R h∧h.tries≤200000
theorem Made.sx {w w':World}{g:PG}{h:HS}{H:Nat}(m:Made w g h H w'):xK (some (g,h)) w (some ⟨H,0,none⟩) w':=by
 obtain⟨U,d,e,G,hU⟩:=m.hg
 exact⟨m.dY,Or.inr ⟨g,h,H,U,d,rfl,rfl,e,G.hu,fun k hk=>⟨hU k hk,G.hu.lt k hk⟩⟩⟩
theorem gD.sy {w w':World}{g:PG}{h:HS}{Y:Nat}(m:gD w g h Y w'):FB (some (g,h)) w (some ⟨Y,0,none⟩) w':=by
 obtain⟨V,d,G,hU⟩:=m.du
 exact⟨m.dY,Or.inr ⟨g,h,Y,V,d,rfl,rfl,G,fun k hk=>⟨hU k hk,G.dk.lt k hk⟩⟩⟩
theorem pO (R:ByteArray→Sh):∀(l:List ByteArray) (h:HS),(bX R h l).tries=h.tries+l.length
 |[],_=>rfl
 |s::l,h=>by
  have ht:(aD R h s).1.tries=h.tries+1:=by
   unfold aD;repeat' split
   all_goals rfl
  show(bX R (aD R h s).1 l).tries=_
  rw[pO R l,ht,List.length_cons];omega
theorem jq.iI {R:ByteArray→Sh}(hR:sO R):∀(l:List (Bool×ByteArray)) (h h':HS),jq R h→(∀x∈l,x.2.size≤24)→gJ R h l=some h'→jq R h'
 |[],_,_,p,_,e=>by cases e;exact p
 |x::l,h,h',p,hs,e=>by
  unfold gJ at e;split at e
  ·exact jq.iI hR l _ _ (p.tried hR x.2 (hs x List.mem_cons_self)) (fun y hy=>hs y (List.mem_cons_of_mem _ hy)) e
  ·cases e
theorem FC {w:World}{v:Value}{L:Nat}{c:Nat→Int}(hby:∀i,i<L→0≤c i∧c i≤255)(C:b9 w v L c)(hT:bK w)(l:List ByteArray)(hls:∀s∈l,s.size≤9223372036854775807)(aa fuel:Int)(s0:0≤aa)(s1:aa≤18446744073709551615):
  ∃z o,Jd o∧(∀W v vf,b9 W v L c→SL W vf l→bK W→kT W→3≤W.heap.size→Calls Tryz.prog 37 #[v,vf,.int .u64 aa,.int .i64 fuel] W fun e w'=>∃xo,e=.returned (.tuple #[.pointer xo,.int .i64 z])∧xK o W xo w')∧
   ∀W v vf,b9 W v L c→TL W vf l→3≤W.heap.size→Calls Tryz.prog 38 #[v,vf,.int .u64 aa,.int .i64 fuel] W fun e w'=>∃yo,e=.returned (.tuple #[.pointer yo,.int .i64 z])∧FB o W yo w':=by
 obtain⟨r,b,hF⟩:=AZ hby C hT
 by_cases hz:ez b l fuel=0
 ·obtain⟨rfl,n2,n3,n4,n5⟩:=mg hz
  obtain⟨N,P,hL⟩:=uR hF n4 n5
  refine⟨0,some (⟨c,L,N,fuel⟩,bX (PG.R ⟨c,L,N,fuel⟩) (HS.zero aa) l),fun g h e=> ?_,fun W v vf C S hT hM h3=>(xJ W v vf L c hby C l S hls r false hF aa fuel s0 s1 hT hM h3).mono ?_,fun W v vf C S h3=>(rA W v vf L c hby C l S hls aa fuel s0 s1 h3).mono ?_⟩
  ·cases e
   refine⟨P,jq.tries (PG.mC _) l _ (nR aa s0 s1) n3,?_⟩
   rw[pO];show 0+l.length≤_;omega
  ·rintro e w' (⟨h,_⟩|⟨_,N',H,P',rfl,m⟩)
   ·exact absurd hz h
   ·obtain rfl:N'=N:=iP P'.fine P.fine
    exact⟨_,rfl,m.sx⟩
  ·rintro e w' ⟨r',b',hF',h⟩;obtain rfl:b'=false:=(hF'.same hF).2;rcases h with⟨h,_⟩|⟨_,N',Y,P',rfl,m⟩
   ·exact absurd hz h
   ·obtain rfl:N'=N:=iP P'.fine P.fine
    exact⟨_,rfl,m.sy⟩
 ·refine⟨ez b l fuel,none,(fun g h e=>by cases e),fun W v vf C S hT hM h3=>(xJ W v vf L c hby C l S hls r b hF aa fuel s0 s1 hT hM h3).mono ?_,fun W v vf C S h3=>(rA W v vf L c hby C l S hls aa fuel s0 s1 h3).mono ?_⟩
  ·rintro e w' (⟨_,rfl,B⟩|⟨h,_⟩)
   ·exact⟨_,rfl,B,Or.inl ⟨rfl,rfl⟩⟩
   ·exact absurd h hz
  ·rintro e w' ⟨r',b',hF',h⟩;obtain rfl:b'=b:=(hF'.same hF).2;rcases h with⟨_,rfl,B⟩|⟨h,_⟩
   ·exact⟨_,rfl,B,Or.inl ⟨rfl,rfl⟩⟩
   ·exact absurd h hz
theorem FD {w:World}{v:Value}{L:Nat}{c:Nat→Int}(hby:∀i,i<L→0≤c i∧c i≤255)(C:b9 w v L c)(hT:bK w)(log:ByteArray)(hlog:log.size≤9223372036854775806)(aa fuel:Int)(s0:0≤aa)(s1:aa≤18446744073709551615):
  ∃n z o,Jd o∧(∀W v,b9 W v L c→bK W→kT W→3≤W.heap.size→Calls Tryz.prog 40 #[v,.string log,.int .u64 aa,.int .i64 fuel] W fun e w'=>∃xo,e=.returned (.tuple #[.pointer xo,.int .i64 n,.int .i64 z])∧xK o W xo w')∧
   ∀W v,b9 W v L c→3≤W.heap.size→Calls Tryz.prog 41 #[v,.string log,.int .u64 aa,.int .i64 fuel] W fun e w'=>∃yo,e=.returned (.tuple #[.pointer yo,.int .i64 n,.int .i64 z])∧FB o W yo w':=by
 obtain⟨r,b,hF⟩:=AZ hby C hT
 by_cases hz:ez b [] fuel=0
 ·obtain⟨rfl,n2,n3,n4,n5⟩:=mg hz
  obtain⟨N,P,hL⟩:=uR hF n4 n5
  obtain⟨⟨h0,m0⟩,hf⟩:∃q,aZ (PG.R ⟨c,L,N,fuel⟩) 1 (HS.zero aa) (aN (nums log))=q:=⟨_,rfl⟩
  cases m0 with
  |none=>
   refine⟨0,0,some (⟨c,L,N,fuel⟩,h0),fun g h e=> ?_,fun W v C hT hM h3=>(lI W v L c hby C log hlog r false hF aa fuel s0 s1 hT hM h3).mono ?_,fun W v C h3=>(lH W v L c hby C log hlog aa fuel s0 s1 h3).mono ?_⟩
   ·cases e
    obtain⟨l,_,e2,e3⟩:=lV _ _ _ _ _ hf
    have D:=jq.iI (PG.mC _) l _ _ (nR aa s0 s1) e2 e3
    refine⟨P,D,?_⟩
    have h1:=lD _ _ _ e3;have h2:=(qM _ _ _ _ e3).1;have h3:=jB D.inv P.ok.EL;rw[h2]at h3;simp[HS.zero]at h1 h3;omega
   ·rintro e w' (⟨h,_⟩|⟨_,N',P',B,h⟩)
    ·exact absurd hz h
    ·obtain rfl:N'=N:=iP P'.fine P.fine;rcases h with⟨h',H,U,e1,rfl,p⟩|⟨h',n,e1,_⟩
     ·rw[hf]at e1;injection e1 with e1 _;subst e1
      obtain⟨d,e2,G⟩:=p.hg
      exact⟨_,rfl,B,Or.inr ⟨_,_,H,U,d,rfl,rfl,e2,G.hu,fun k hk=>⟨p.lo k hk,G.hu.lt k hk⟩⟩⟩
     ·rw[hf]at e1;cases e1
   ·rintro e w' ⟨r',b',hF',h⟩;obtain rfl:b'=false:=(hF'.same hF).2;rcases h with⟨h,_⟩|⟨_,N',P',h⟩
    ·exact absurd hz h
    ·obtain rfl:N'=N:=iP P'.fine P.fine;rcases h with⟨h',Y,e1,rfl,m⟩|⟨h',n,e1,_⟩
     ·rw[hf]at e1;injection e1 with e1 _;subst e1
      exact⟨_,rfl,m.sy⟩
     ·rw[hf]at e1;cases e1
  |some n0=>
   refine⟨n0,5,none,(fun g h e=>by cases e),fun W v C hT hM h3=>(lI W v L c hby C log hlog r false hF aa fuel s0 s1 hT hM h3).mono ?_,fun W v C h3=>(lH W v L c hby C log hlog aa fuel s0 s1 h3).mono ?_⟩
   ·rintro e w' (⟨h,_⟩|⟨_,N',P',B,h⟩)
    ·exact absurd hz h
    ·obtain rfl:N'=N:=iP P'.fine P.fine;rcases h with⟨h',H,U,e1,_⟩|⟨h',n,e1,rfl⟩
     ·rw[hf]at e1;cases e1
     ·rw[hf]at e1;injection e1 with _ e1;injection e1 with e1;subst e1
      exact⟨_,rfl,B,Or.inl ⟨rfl,rfl⟩⟩
   ·rintro e w' ⟨r',b',hF',h⟩;obtain rfl:b'=false:=(hF'.same hF).2;rcases h with⟨h,_⟩|⟨_,N',P',h⟩
    ·exact absurd hz h
    ·obtain rfl:N'=N:=iP P'.fine P.fine;rcases h with⟨h',Y,e1,_⟩|⟨h',n,e1,rfl,B⟩
     ·rw[hf]at e1;cases e1
     ·rw[hf]at e1;injection e1 with _ e1;injection e1 with e1;subst e1
      exact⟨_,rfl,B,Or.inl ⟨rfl,rfl⟩⟩
 ·refine⟨0,ez b [] fuel,none,(fun g h e=>by cases e),fun W v C hT hM h3=>(lI W v L c hby C log hlog r b hF aa fuel s0 s1 hT hM h3).mono ?_,fun W v C h3=>(lH W v L c hby C log hlog aa fuel s0 s1 h3).mono ?_⟩
  ·rintro e w' (⟨_,rfl,B⟩|⟨h,_⟩)
   ·exact⟨_,rfl,B,Or.inl ⟨rfl,rfl⟩⟩
   ·exact absurd h hz
  ·rintro e w' ⟨r',b',hF',h⟩;obtain rfl:b'=b:=(hF'.same hF).2;rcases h with⟨_,rfl,B⟩|⟨h,_⟩
   ·exact⟨_,rfl,B,Or.inl ⟨rfl,rfl⟩⟩
   ·exact absurd h hz
theorem pQ {w:World}{A M L T:Nat}{col:Nat→Nat}{ps:List PP}(h:WW w A M L T col ps)(hl:(L+4)*24≤140737488355328)(hps:(ps.length+1)*16≤140737488355328)(hT2:200000≤T){cv:Value}{Lc:Nat}{c:Nat→Int}(C:iD (fun k=>col k=1) w cv Lc c)(log:ByteArray)(hlog:log.size≤9223372036854775806)(sd f:Int)(s0:0≤sd)(s1:sd≤18446744073709551615):
  Calls Tryz.prog 12 #[.pointer (some ⟨A,0,none⟩),cv,.string log,.int .u64 sd,.int .i64 f] w (fun e w'=>bC A M L T col w e w'∧Fr (fun k=>col k=1∨col k=2) w w'):=by
 obtain⟨n,z,o,hg,hX,hY⟩:=FD C.byte C.cR h.tab log hlog sd f s0 s1
 have HG:=hid hg;have HX:=hid hX;have HY:=hid hY
 obtain⟨pc,ax,rfl⟩:=C.cR.form
 obtain⟨i,hi,hz0,hz1,hz2⟩:=bB (t:=51) (z:=some (.agg #[.pointer none,.pointer none])) (s:=2) (b:=16) (by kernel_rfl)
 obtain⟨F,f0,ob,hob⟩:=h.ob
 have hb:=h.bk.lt;have ca:w.cell? ⟨A,0,none⟩=some (.pointer (some ⟨M,0,none⟩)):=(ob.cell 0 (by decide)).trans (by rw[f0]);have hA:=ob.lt;have colA:=hob A (Or.inl rfl);have HW:=hid h;have HOB:Hid (F 0=.pointer (some ⟨M,0,none⟩)∧OB wT A w F (fun _=>dW ps) (fun _=>ps.length)∧∀k,iB wT A F k→col k=2):=⟨f0,ob,hob⟩;clear h ob f0 hob hg hX hY;go_in;go_wp2_with fail
 refine(ld w (.slice pc Lc ax) Lc c C.cR C.most).mono ?_
 rintro e1 w1 ⟨g,cap,rfl,hown,B1⟩;have hg:=hown.lt g rfl
 obtain⟨Cin,hcap,hcap'⟩:=j7 hown
 have hLc:=C.most;have hi1:(Lc:Int)≤(cap:Int):=by omega
 have HOWN:=hid (dN hown (Nat.zero_le _));have hs1:=B1.size;have HB1:=hid B1;clear hown B1;go_wp2_with fail
 refine(HX.out w1 _ Cin (HW.out.tab.below HB1.out) (kT.below HW.out.pI HB1.out HW.out.pI.two) (by omega)).mono ?_
 rintro e2 w2 ⟨xo,rfl,sx⟩;have HSX:=hid sx;have hs2:=sx.1.size;have HB2:=hid (HB1.out.trans (sx.1.mono hs1));clear sx HX Cin;go_wp2_with fail
 refine(HY.out w2 _ (C.cR.below HB2.out) (by omega)).mono ?_
 rintro e3 w3 ⟨yo,rfl,sy⟩;have HSY:=hid sy;have hs3:=sy.1.size;have HB3:=hid (HB2.out.trans (sy.1.mono HB2.out.size));have ca3:=cS HB3.out ca;have HS3:=hid (Sq.of HW.out.bk HB3.out);have b13:=HSX.out.1.trans (sy.1.mono hs2);have WH:=jZ HS3.out.bk hl g cap Lc c (.slice pc Lc ax) (ay HOWN.out (fun k hk=>b13.block k (aL HOWN.out hk))) ⟨fun q=>by have:=(hb.1 g q).1;omega,by omega⟩ (C.cR.below HB3.out) (fun h0 e=>by have:=(C.out h0 g e).2;omega) C.most;have HWH:=hid WH;clear WH sy HY b13 HOWN C;go_wp2_with fail
 refine HWH.out.mono ?_;rintro _ w4 ⟨rfl,f4,b4⟩;have hs4:=f4.size;have HST:Hid (∀k,w1.heap.size≤k→k<w3.heap.size→w4.heap[k]?=w3.heap[k]?∧¬Gr (fun k=>col k=1∨(Value.slice (some ⟨g,0,none⟩) (Lc+8) cap).ownBlock=some k) w3 w4 k):=fun k h1 h2=>f4.stay h2 (fun q=>by have:=(hb.1 k q).1;omega) (fun q=>by
  obtain rfl:g=k:=by simpa[Value.ownBlock]using q
  omega)
 have HSQ:Hid (Sq (fun k=>col k=1) M (bump (fun _=>L) 8) w w4 (Gr (fun k=>col k=1∨(Value.slice (some ⟨g,0,none⟩) (Lc+8) cap).ownBlock=some k) w3 w4)):=HS3.out.own f4 b4 (fun q hq=>by
  obtain rfl:g=q:=by simpa[Value.ownBlock]using hq
  omega)
 have caA:=(World.cell?_of_block (w:=w3) (a:=⟨A,0,none⟩) (f4.stay (k:=A) (by omega) (by omega) (fun q=>by
  obtain rfl:g=A:=by simpa[Value.ownBlock]using q
  omega)).1).trans ca3
 clear f4 b4 HWH HS3
 cases o with
 |none=>
  obtain rfl:xo=none:=HSX.out.2.elim (fun c=>c.2) (fun⟨_,_,_,_,_,e,_⟩=>by cases e);obtain rfl:yo=none:=HSY.out.2.elim (fun c=>c.2) (fun⟨_,_,_,_,_,e,_⟩=>by cases e);have HF:Hid (bC A M L T col w (.returned (.bool true)) w4∧Fr (fun k=>col k=1∨col k=2) w w4):=⟨HW.out.uQ (HSQ.out.fin (fun r=>by simp only[bump];(repeat' split)<;>omega)),HSQ.out.fr.wide (fun _ c=>Or.inl c)⟩;go_wp2_with(go_at_call 16;refine(ju _ _).mono ?_;rintro e' w' ⟨rfl,hw'⟩;obtain rfl:=hw'.symm)
  go_ret;exact HF.out
 |some q=>
  obtain⟨g0,h0⟩:=q
  obtain⟨H,U,dx,rfl,dH,hx,hU⟩:∃H U d,xo=some ⟨H,0,none⟩∧d.H=H∧HU w2 U d g0 h0∧∀k,U k→w1.heap.size≤k∧k<w2.heap.size:=HSX.out.2.elim (fun c=>by cases c.1) (fun⟨_,_,H,U,d,e,a,b,c,f⟩=>by cases e;exact⟨H,U,d,a,b,c,f⟩)
  obtain⟨Y,V,dy,rfl,hy,hV⟩:∃Y V d,yo=some ⟨Y,0,none⟩∧DU w3 V Y d g0 h0∧∀k,V k→w2.heap.size≤k∧k<w3.heap.size:=HSY.out.2.elim (fun c=>by cases c.1) (fun⟨_,_,Y,V,d,e,a,c,f⟩=>by cases e;exact⟨Y,V,d,a,c,f⟩)
  obtain⟨pg,oh,htr⟩:=HG.out g0 h0 rfl
  have obl:OB wT A w4 F (fun _=>dW ps) (fun _=>ps.length):=HOB.out.2.1.keep HSQ.out.fr.size (fun k hk=>HSQ.out.fr.block k (HOB.out.2.1.in hk) (fun c=>by have:=HOB.out.2.2 k hk;omega));have rw1:=obl.own 1 rfl;have c1:=obl.cell 1 (by decide)
  obtain⟨ar,kr,er⟩:=cT rw1
  have HER:=hid er;have HRW:=hid (er▸rw1);rw[er]at c1;have hAl:=obl.lt;have HOL:=hid obl;have HBN:Hid (∀(o:Obj) (w7:World) (v':Value),(w4.alloc o).grownBy w7 (F 1).ownBlock→w7.ownsRow 0 51 2 v' (ps.length+1) (dW ps++[.pointer (some ⟨H,0,none⟩),.pointer (some ⟨Y,0,none⟩)])→(v'.ownBlock=(F 1).ownBlock∨v'.ownBlock=some (w4.alloc o).heap.size)→bC A M L T col w (.returned (.bool true)) (w7.setCell ⟨A,1,none⟩ v')∧Fr (fun k=>col k=1∨col k=2) w (w7.setCell ⟨A,1,none⟩ v')):=fun o w7 v' a1 a2 a3=>
   HW.out.born (p:=⟨H,Y,g0,h0⟩) HB3.out HSQ.out (fun r=>by simp only[bump];(repeat' split)<;>omega) hs4 (fun k hk=>by
    have hk2:w1.heap.size≤k∧k<w3.heap.size:=hk.elim (fun c=>by have:=hU k c;omega) (fun c=>by have:=hV k c;omega)
    exact⟨by omega,hk2.2,(HST.out k hk2.1 hk2.2).2,(HST.out k hk2.1 hk2.2).1⟩) (fun k h1 h2=>by have:=hU k h1;have:=hV k h2;omega) pg oh (by show h0.tries≤T+2000;omega) ⟨dx,dH,hx.keep (fun k hk=>HSY.out.1.block k (hU k hk).2) (fun _ c=>c) (fun k hk=>by have:=(hU k hk).2;omega) (fun k hk=>by have:=(hU k hk).1;omega)⟩ ⟨dy,hy⟩ HOB.out.1 HOL.out HOB.out.2.2 a1 a2 a3
  have hpsn:=hps;clear rw1 er obl hx hy hU hV pg oh htr;generalize hpn:ps.length=pn at*;go_wp2_with(first|(go_at_call 16;refine(ju _ _).mono ?_;rintro e' w' ⟨rfl,hw'⟩;obtain rfl:=hw'.symm)|(at_builtin;refine wpList_append_own_at _ rfl (.tmp 76) (.tmp 80) 36 rfl 0 51 i _ 2 16 Tryz.underlying36 hi hz0 hz1 hz2 rfl (by decide) _ pn _ rfl (HRW.out.alloc _) ⟨_,0,none⟩ 1 1 [.pointer (some ⟨H,0,none⟩),.pointer (some ⟨Y,0,none⟩)] rfl rfl (cG _ _ _) ?c2 (by unfold maxLen;omega) (by omega) (by simp) ?_))
  case c2=>first|exact⟨rfl,rfl⟩|(intro u hu;simp at hu;rcases hu with rfl|rfl<;>rfl)
  intro v7 w7 ho7 hg7 _ hat7
  obtain⟨g7,k7,rfl⟩:=aB ho7 (by omega)
  rw[←HER.out,←World.size_alloc (o:=.cells #[.pointer (some ⟨H,0,none⟩),.pointer (some ⟨Y,0,none⟩)] 51)]at hat7;rw[←HER.out]at hg7
  obtain⟨c7,f7⟩:=(HOL.out.alloc _).got 1 rfl hg7
  rw[HER.out]at c7;have HF:=hid (HBN.out _ w7 _ hg7 ho7 hat7);clear ho7 hg7 hat7 HBN HOL HRW;go_wp2;go_ret;exact HF.out
structure pR (B:Nat→Prop) (w:World) (v:Value) (l:List ByteArray):Prop where
 tl:TL w v l
 size:∀s∈l,s.size≤9223372036854775807
 most:(l.length+8)*16≤140737488355328
 out:0<l.length→∀g,v.ownBlock=some g→¬B g∧g<w.heap.size
theorem Iz {w:World}{g cap:Nat}{l:List ByteArray}(h:w.ownsRow 0 9 1 (.slice (some ⟨g,0,none⟩) (l.length+8) cap) (l.length+8) (gp l 8)):SL w (.slice (some ⟨g,0,none⟩) l.length cap) l∧l.length+8≤cap∧cap≤9223372036854775807:=by
 rcases aO h with⟨e,_⟩|⟨b,cp,e,hb,hm,hn,hc⟩
 ·cases e
 ·simp only[Value.slice.injEq,Option.some.injEq,Addr.mk.injEq,and_true,true_and]at e
  obtain⟨rfl,rfl⟩:=e
  have hm':cap≤9223372036854775807:=hm
  refine⟨⟨Or.inr ⟨g,cap,rfl,hb,by omega,fun j hj=>hc j _ ?_⟩⟩,hn,hm'⟩
  rw[tG l (by omega),if_pos hj]
theorem TL.same {w w':World}{v:Value}{l:List ByteArray}(h:TL w v l)(hs:w.heap.size≤w'.heap.size)(hb:0<l.length→∀g,v.ownBlock=some g→w'.heap[g]?=w.heap[g]?):TL w' v l:=by
 obtain⟨ao,cap,rfl,h2,h3,h4⟩:=h.form
 refine⟨ao,cap,rfl,h2,h3,fun j hj=> ?_⟩
 obtain⟨b,o,rfl,hbl,hc⟩:=h4 j hj
 exact⟨b,o,rfl,by omega,fun i hi=>(World.cell?_of_block (w:=w) (a:=⟨b,o+i,none⟩) (hb (by omega) b rfl)).trans (hc i hi)⟩
theorem A4 {w:World}{A M L T:Nat}{col:Nat→Nat}{ps:List PP}(h:WW w A M L T col ps)(hl:(L+4)*24≤140737488355328)(hps:(ps.length+1)*16≤140737488355328)(hT2:200000≤T)(pp n f:Int){cv:Value}{Lc:Nat}{c:Nat→Int}(C:iD (fun k=>col k=1) w cv Lc c)(s t:ByteArray)(sd:Int)(s0:0≤sd)(s1:sd≤18446744073709551615){b:Option Addr}{k e:Nat}{l:List ByteArray}(X:pR (fun k=>col k=1) w (.slice b k e) l):
  Calls Tryz.prog 11 #[.pointer (some ⟨A,0,none⟩),.agg (dw 7 pp n f cv s t sd (.slice b k e))] w (bC A M L T col w):=by
 obtain⟨z,o,hg,hX,hY⟩:=FC C.byte C.cR h.tab l X.size sd f s0 s1
 have HG:=hid hg;have HX:=hid hX;have HY:=hid hY
 obtain⟨pc,ax,rfl⟩:=C.cR.form
 obtain⟨i,hi,hz0,hz1,hz2⟩:=bB (t:=51) (z:=some (.agg #[.pointer none,.pointer none])) (s:=2) (b:=16) (by kernel_rfl)
 obtain⟨F,f0,ob,hob⟩:=h.ob
 have hb:=h.bk.lt;have ca:w.cell? ⟨A,0,none⟩=some (.pointer (some ⟨M,0,none⟩)):=(ob.cell 0 (by decide)).trans (by rw[f0]);have hA:=ob.lt;have colA:=hob A (Or.inl rfl);have HW:=hid h;have HOB:Hid (F 0=.pointer (some ⟨M,0,none⟩)∧OB wT A w F (fun _=>dW ps) (fun _=>ps.length)∧∀k,iB wT A F k→col k=2):=⟨f0,ob,hob⟩;obtain rfl:k=l.length:=by
  obtain⟨ao,cap,q,_⟩:=X.tl.form
  simp only[Value.slice.injEq]at q;exact q.2.1
 have O:=Da w 7 pp n f (.slice pc Lc ax) s t sd (.slice b l.length e);have O4:=O.c4;have HO:Hid _:=O;clear h ob f0 hob hg hX hY O;go_in;go_wp2_with(refine aF rfl 43 _ rfl (.agg (dw 7 pp n f (.slice pc Lc ax) s t sd (.slice b l.length e))) rfl (dw 7 pp n f (.slice pc Lc ax) s t sd (.slice b l.length e)) (gI _ _ _ _ _ _ _ _ _ _ _ _ _) ?_)
 generalize(w.alloc (.cells (dw 7 pp n f (.slice pc Lc ax) s t sd (.slice b l.length e)) 43))=w0 at*
 have hz:=HO.out.size;have B0:=HO.out.dY
 refine(ld w0 (.slice pc Lc ax) Lc c (C.cR.below B0) C.most).mono ?_
 rintro e1 w1 ⟨g,cap,rfl,hown,B1⟩;have hg:=hown.lt g rfl
 obtain⟨Cin,hcap,hcap'⟩:=j7 hown
 have hLc:=C.most;have hi1:(Lc:Int)≤(cap:Int):=by omega
 have HOWN:=hid (dN hown (Nat.zero_le _));have hs1:=B1.size;have a8:=cS B1 HO.out.c8;have HB1:=hid (B0.trans (B1.mono B0.size));have HC1:=hid Cin;have hXm:=X.most;clear hown Cin O4;go_wp2_with fail
 refine(su w1 (.slice b l.length e) l (X.tl.below HB1.out) X.most).mono ?_
 rintro e2 w2 ⟨gt,capt,rfl,hown2,B2⟩;have hgt:=hown2.lt gt rfl;have HOWT:=hid (dN hown2 (Nat.zero_le _))
 obtain⟨sl,hct,hct'⟩:=Iz HOWT.out
 have hi2:(l.length:Int)≤(capt:Int):=by omega
 have hs2:=B2.size;have B12:=B1.trans (B2.mono B1.size);have d3:=cS B12 HO.out.c3;have d4:=cS B12 HO.out.c4;have d7:=cS B12 HO.out.c7;have d8:=cS B12 HO.out.c8;have HB2:Hid (Below w.heap.size w w2∧Below w0.heap.size w0 w2):=⟨HB1.out.trans (B2.mono HB1.out.size),B12⟩;have HB12:=hid B2.block;have HX2:Hid (Calls Tryz.prog 37 #[.slice (some ⟨g,0,none⟩) Lc cap,.slice (some ⟨gt,0,none⟩) l.length capt,.int .u64 sd,.int .i64 f] w2.drew fun e w'=>∃xo,e=.returned (.tuple #[.pointer xo,.int .i64 z])∧xK o w2.drew xo w'):=HX.out w2.drew _ _ (HC1.out.below B2.drew) (sl.below (Below.refl _ _).drew) (HW.out.tab.below HB2.out.1.drew) (kT.below HW.out.pI HB2.out.1.drew HW.out.pI.two) (by show 3≤w2.heap.size;omega);clear hown2 sl B1 B2 B12 B0 HX HC1 a8;go_wp2_with fail
 go_region_held3 (fun W=>W.cell? ⟨w.heap.size,3,none⟩=some (.int .i64 f)∧W.cell? ⟨w.heap.size,4,none⟩=some (.slice pc Lc ax)∧W.cell? ⟨w.heap.size,7,none⟩=some (.int .u64 sd)∧W.cell? ⟨w.heap.size,8,none⟩=some (.slice b l.length e)) (go_keep) (first|(go_at_call 37;go_fit (HX2.out);rintro e3 w3 ⟨xo,rfl,sx⟩;have HSX:Hid (xK o w2 xo w3):=⟨⟨sx.1.os,sx.1.tape,sx.1.output,sx.1.size,sx.1.block⟩,sx.2⟩;clear sx;have k3:=cS HSX.out.1 d3;have k4:=cS HSX.out.1 d4;have k7:=cS HSX.out.1 d7;have k8:=cS HSX.out.1 d8))
 clear d3 d4 d7 d8;have hs3:=HSX.out.1.size;have HB3:=hid (HB2.out.1.trans (HSX.out.1.mono HB2.out.1.size));go_wp2_with fail
 refine(HY.out w3 _ _ (C.cR.below HB3.out) (X.tl.below HB3.out) (by omega)).mono ?_
 rintro e4 w4 ⟨yo,rfl,sy⟩;have HSY:=hid sy;have hs4:=sy.1.size;have HB4:=hid (HB3.out.trans (sy.1.mono HB3.out.size));have ca4:=cS HB4.out ca;have q4:=cS sy.1 k4;have q8:=cS sy.1 k8;have HB24:=hid (HSX.out.1.trans (sy.1.mono hs3));have HB14:Hid (∀k,k<w2.heap.size→w4.heap[k]?=w2.heap[k]?):=fun k hk=>HB24.out.block k hk
 have HS4:=hid (Sq.of HW.out.bk HB4.out);have HNB:Hid (∀k,w.heap.size≤k→¬col k=1):=fun k hk q=>by have:=(hb.1 k q).1;omega
 have b12:=HB12.out;have WH:=jZ (w:=w4.drew) (HS4.out.below (Below.refl _ _).drew).bk hl g cap Lc c (.slice pc Lc ax) (ay HOWN.out (fun k hk=>(HB24.out.block k (by have:=aL HOWN.out hk;omega)).trans (b12 k (aL HOWN.out hk)))) ⟨HNB.out g (by omega),by omega⟩ (C.cR.below HB4.out.drew) (fun h0 e=>by have:=(C.out h0 g e).2;omega) C.most;have HWH:=hid WH;have HST:Hid (∀w5,Fr (fun k=>col k=1∨(Value.slice (some ⟨g,0,none⟩) (Lc+8) cap).ownBlock=some k) w4 w5→∀k,k<w4.heap.size→¬col k=1→k≠g→w5.heap[k]?=w4.heap[k]?∧¬Gr (fun k=>col k=1∨(Value.slice (some ⟨g,0,none⟩) (Lc+8) cap).ownBlock=some k) w4 w5 k):=fun w5 f5 k h1 h2 h3=>f5.stay h1 h2 (fun q=>h3 (by
  obtain rfl:g=k:=by simpa[Value.ownBlock]using q
  rfl))
 have HCL:Hid (∀w5,Fr (fun k=>col k=1∨(Value.slice (some ⟨g,0,none⟩) (Lc+8) cap).ownBlock=some k) w4 w5→w5.cell? ⟨A,0,none⟩=some (.pointer (some ⟨M,0,none⟩))∧w5.cell? ⟨w.heap.size,4,none⟩=some (.slice pc Lc ax)∧w5.cell? ⟨w.heap.size,8,none⟩=some (.slice b l.length e)):=fun w5 f5=>⟨(World.cell?_of_block (w:=w4) (a:=⟨A,0,none⟩) (HST.out w5 f5 A (by omega) (by omega) (by omega)).1).trans ca4,(World.cell?_of_block (w:=w4) (a:=⟨w.heap.size,4,none⟩) (HST.out w5 f5 w.heap.size (by omega) (HNB.out _ (Nat.le_refl _)) (by omega)).1).trans q4,(World.cell?_of_block (w:=w4) (a:=⟨w.heap.size,8,none⟩) (HST.out w5 f5 w.heap.size (by omega) (HNB.out _ (Nat.le_refl _)) (by omega)).1).trans q8⟩
 clear WH sy HY k3 k4 k7 k8 b12;go_wp2_with fail
 go_region_held3 (fun W=>W.cell? ⟨A,0,none⟩=some (.pointer (some ⟨M,0,none⟩))∧W.cell? ⟨w.heap.size,4,none⟩=some (.slice pc Lc ax)) (go_keep) (first|(go_at_call 31;go_fit (HWH.out);rintro e5 w5 ⟨rfl,f5,b5⟩;have HW5:Hid (Fr (fun k=>col k=1∨(Value.slice (some ⟨g,0,none⟩) (Lc+8) cap).ownBlock=some k) w4 w5∧Bk w5 (Gr (fun k=>col k=1∨(Value.slice (some ⟨g,0,none⟩) (Lc+8) cap).ownBlock=some k) w4 w5) M (bump (fun _=>L) 8)):=⟨⟨f5.os,f5.tape,f5.output,f5.size,f5.block⟩,b5⟩;clear f5 b5;obtain⟨ca5,q45,q85⟩:=HCL.out w5 HW5.out.1))
 clear ca4 q4 q8 HWH HCL;have hs5:=HW5.out.1.size;have S5:=HS4.out.own HW5.out.1 HW5.out.2 (fun q hq=>by
  obtain rfl:g=q:=by simpa[Value.ownBlock]using hq
  omega)
 have st5:=HST.out w5 HW5.out.1
 obtain⟨t1,t2⟩:=st5 gt (by omega) (HNB.out gt (by omega)) (by omega)
 have X5:TL w5 (.slice b l.length e) l:=(X.tl.below HB4.out).same hs5 (fun h0 gg q=>(st5 gg (by have:=(X.out h0 gg q).2;omega) (X.out h0 gg q).1 (by have:=(X.out h0 gg q).2;omega)).1);have WT:=rH (w:=w5.drew) (S5.below (Below.refl _ _).drew).bk hl gt capt l (.slice b l.length e) (ay HOWT.out (fun k hk=>by
  obtain rfl:gt=k:=by simpa[Value.ownBlock]using hk
  exact t1.trans (HB14.out gt hgt.2))) ⟨t2,by omega⟩ (X5.below (Below.refl _ _).drew) (fun h0 q=>by have:=(X.out h0 gt q).2;omega) X.most
 have tA:=(st5 A (by omega) (by omega) (by omega)).2;have tW:=(st5 w.heap.size (by omega) (HNB.out _ (Nat.le_refl _)) (by omega)).2;have HUV:Hid (∀k,w2.heap.size≤k→k<w4.heap.size→w5.heap[k]?=w4.heap[k]?∧¬Gr (fun k=>col k=1∨(Value.slice (some ⟨g,0,none⟩) (Lc+8) cap).ownBlock=some k) w4 w5 k):=fun k h1 h2=>st5 k h2 (HNB.out k (by omega)) (by omega)
 clear st5 t1 t2 X5 HST HW5 HS4 HOWN HOWT HB14 HB24;generalize hC5:Gr (fun k=>col k=1∨(Value.slice (some ⟨g,0,none⟩) (Lc+8) cap).ownBlock=some k) w4 w5=C5 at*;have HS5:=hid S5;have HWT:=hid WT;have HST:Hid (∀w6,Fr (fun k=>C5 k∨(Value.slice (some ⟨gt,0,none⟩) (l.length+8) capt).ownBlock=some k) w5 w6→∀k,k<w5.heap.size→¬C5 k→k≠gt→w6.heap[k]?=w5.heap[k]?∧¬Gr (fun k=>C5 k∨(Value.slice (some ⟨gt,0,none⟩) (l.length+8) capt).ownBlock=some k) w5 w6 k):=fun w6 f6 k h1 h2 h3=>f6.stay h1 h2 (fun q=>h3 (by
  obtain rfl:gt=k:=by simpa[Value.ownBlock]using q
  rfl))
 have HCL:Hid (∀w6,Fr (fun k=>C5 k∨(Value.slice (some ⟨gt,0,none⟩) (l.length+8) capt).ownBlock=some k) w5 w6→w6.cell? ⟨A,0,none⟩=some (.pointer (some ⟨M,0,none⟩))∧w6.cell? ⟨w.heap.size,8,none⟩=some (.slice b l.length e)):=fun w6 f6=>⟨(World.cell?_of_block (w:=w5) (a:=⟨A,0,none⟩) (HST.out w6 f6 A (by omega) tA (by omega)).1).trans ca5,(World.cell?_of_block (w:=w5) (a:=⟨w.heap.size,8,none⟩) (HST.out w6 f6 w.heap.size (by omega) tW (by omega)).1).trans q85⟩
 clear WT S5 tA tW hC5 C X;go_wp2_with fail
 go_region_held3 (fun W=>W.cell? ⟨A,0,none⟩=some (.pointer (some ⟨M,0,none⟩))∧W.cell? ⟨w.heap.size,8,none⟩=some (.slice b l.length e)) (go_keep) (first|(go_at_call 39;go_fit (HWT.out);rintro e6 w6 ⟨rfl,f6,b6⟩;have HW6:Hid (Fr (fun k=>C5 k∨(Value.slice (some ⟨gt,0,none⟩) (l.length+8) capt).ownBlock=some k) w5 w6∧Bk w6 (Gr (fun k=>C5 k∨(Value.slice (some ⟨gt,0,none⟩) (l.length+8) capt).ownBlock=some k) w5 w6) M (bump (bump (fun _=>L) 8) 9)):=⟨⟨f6.os,f6.tape,f6.output,f6.size,f6.block⟩,b6⟩;clear f6 b6;obtain⟨ca6,q86⟩:=HCL.out w6 HW6.out.1))
 clear HWT HCL ca5 q45 q85;have hs6:=HW6.out.1.size;have HSQ:Hid (Sq (fun k=>col k=1) M (bump (bump (fun _=>L) 8) 9) w w6 (Gr (fun k=>C5 k∨(Value.slice (some ⟨gt,0,none⟩) (l.length+8) capt).ownBlock=some k) w5 w6)):=HS5.out.own HW6.out.1 HW6.out.2 (fun q hq=>by
  obtain rfl:gt=q:=by simpa[Value.ownBlock]using hq
  omega)
 have HKP:Hid (∀k,w2.heap.size≤k→k<w4.heap.size→w6.heap[k]?=w4.heap[k]?∧¬Gr (fun k=>C5 k∨(Value.slice (some ⟨gt,0,none⟩) (l.length+8) capt).ownBlock=some k) w5 w6 k):=fun k h1 h2=>by
  obtain⟨u1,u2⟩:=HUV.out k h1 h2
  obtain⟨v1,v2⟩:=HST.out w6 HW6.out.1 k (by omega) u2 (by omega)
  exact⟨v1.trans u1,v2⟩
 clear HST HW6 HUV HS5
 cases o with
 |none=>
  obtain rfl:xo=none:=HSX.out.2.elim (fun c=>c.2) (fun⟨_,_,_,_,_,e,_⟩=>by cases e);obtain rfl:yo=none:=HSY.out.2.elim (fun c=>c.2) (fun⟨_,_,_,_,_,e,_⟩=>by cases e);have HF:Hid (bC A M L T col w (.returned (.bool true)) w6∧Fr (fun k=>col k=1∨col k=2) w w6):=⟨HW.out.uQ (HSQ.out.fin (fun r=>by simp only[bump];(repeat' split)<;>omega)),HSQ.out.fr.wide (fun _ c=>Or.inl c)⟩;go_wp2_with(go_at_call 16;refine(ju _ _).mono ?_;rintro e' w' ⟨rfl,hw'⟩;obtain rfl:=hw'.symm)
  go_ret;exact HF.out.1
 |some q=>
  obtain⟨g0,h0⟩:=q
  obtain⟨H,U,dx,rfl,dH,hx,hU⟩:∃H U d,xo=some ⟨H,0,none⟩∧d.H=H∧HU w3 U d g0 h0∧∀k,U k→w2.heap.size≤k∧k<w3.heap.size:=HSX.out.2.elim (fun c=>by cases c.1) (fun⟨_,_,H,U,d,e,a,b,c,f⟩=>by cases e;exact⟨H,U,d,a,b,c,f⟩)
  obtain⟨Y,V,dy,rfl,hy,hV⟩:∃Y V d,yo=some ⟨Y,0,none⟩∧DU w4 V Y d g0 h0∧∀k,V k→w3.heap.size≤k∧k<w4.heap.size:=HSY.out.2.elim (fun c=>by cases c.1) (fun⟨_,_,Y,V,d,e,a,c,f⟩=>by cases e;exact⟨Y,V,d,a,c,f⟩)
  obtain⟨pg,oh,htr⟩:=HG.out g0 h0 rfl
  have obl:OB wT A w6 F (fun _=>dW ps) (fun _=>ps.length):=HOB.out.2.1.keep HSQ.out.fr.size (fun k hk=>HSQ.out.fr.block k (HOB.out.2.1.in hk) (fun c=>by have:=HOB.out.2.2 k hk;omega));have rw1:=obl.own 1 rfl;have c1:=obl.cell 1 (by decide)
  obtain⟨ar,kr,er⟩:=cT rw1
  have HER:=hid er;have HRW:=hid (er▸rw1);rw[er]at c1;have hAl:=obl.lt;have HOL:=hid obl;have HBN:Hid (∀(o:Obj) (w7:World) (v':Value),(w6.alloc o).grownBy w7 (F 1).ownBlock→w7.ownsRow 0 51 2 v' (ps.length+1) (dW ps++[.pointer (some ⟨H,0,none⟩),.pointer (some ⟨Y,0,none⟩)])→(v'.ownBlock=(F 1).ownBlock∨v'.ownBlock=some (w6.alloc o).heap.size)→bC A M L T col w (.returned (.bool true)) (w7.setCell ⟨A,1,none⟩ v')∧Fr (fun k=>col k=1∨col k=2) w (w7.setCell ⟨A,1,none⟩ v')):=fun o w7 v' a1 a2 a3=>
   HW.out.born (p:=⟨H,Y,g0,h0⟩) HB4.out HSQ.out (fun r=>by simp only[bump];(repeat' split)<;>omega) (by omega) (fun k hk=>by
    have hk2:w2.heap.size≤k∧k<w4.heap.size:=hk.elim (fun c=>by have:=hU k c;omega) (fun c=>by have:=hV k c;omega)
    exact⟨by omega,hk2.2,(HKP.out k hk2.1 hk2.2).2,(HKP.out k hk2.1 hk2.2).1⟩) (fun k h1 h2=>by have:=hU k h1;have:=hV k h2;omega) pg oh (by show h0.tries≤T+2000;omega) ⟨dx,dH,hx.keep (fun k hk=>HSY.out.1.block k (hU k hk).2) (fun _ c=>c) (fun k hk=>by have:=(hU k hk).2;omega) (fun k hk=>by have:=(hU k hk).1;omega)⟩ ⟨dy,hy⟩ HOB.out.1 HOL.out HOB.out.2.2 a1 a2 a3
  have hpsn:=hps;clear rw1 er obl hx hy hU hV pg oh htr;generalize hpn:ps.length=pn at*;go_wp2_with(first|(go_at_call 16;refine(ju _ _).mono ?_;rintro e' w' ⟨rfl,hw'⟩;obtain rfl:=hw'.symm)|(at_builtin;refine wpList_append_own_at _ rfl (.tmp 91) (.tmp 95) 36 rfl 0 51 i _ 2 16 Tryz.underlying36 hi hz0 hz1 hz2 rfl (by decide) _ pn _ rfl (HRW.out.alloc _) ⟨_,0,none⟩ 1 1 [.pointer (some ⟨H,0,none⟩),.pointer (some ⟨Y,0,none⟩)] rfl rfl (cG _ _ _) ?c2 (by unfold maxLen;omega) (by omega) (by simp) ?_))
  case c2=>first|exact⟨rfl,rfl⟩|(intro u hu;simp at hu;rcases hu with rfl|rfl<;>rfl)
  intro v7 w7 ho7 hg7 _ hat7
  obtain⟨g7,k7,rfl⟩:=aB ho7 (by omega)
  rw[←HER.out,←World.size_alloc (o:=.cells #[.pointer (some ⟨H,0,none⟩),.pointer (some ⟨Y,0,none⟩)] 51)]at hat7;rw[←HER.out]at hg7
  obtain⟨c7,f7⟩:=(HOL.out.alloc _).got 1 rfl hg7
  rw[HER.out]at c7;have HF:Hid (bC A M L T col w (.returned (.bool true)) (w7.setCell ⟨A,1,none⟩ (.slice (some ⟨g7,0,none⟩) (pn+1) k7))∧Fr (fun k=>col k=1∨col k=2) w (w7.setCell ⟨A,1,none⟩ (.slice (some ⟨g7,0,none⟩) (pn+1) k7))):=HBN.out _ w7 _ hg7 ho7 hat7;clear ho7 hg7 hat7 HBN HOL HRW;go_wp2;go_ret;exact HF.out.1
end Go.Proofs.YtmpgjkhchfcjlaaGreatDoor
