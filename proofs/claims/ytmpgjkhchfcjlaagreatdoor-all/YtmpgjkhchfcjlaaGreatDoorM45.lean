import Derived.Test.YtmpgjkhchfcjlaaGreatDoorM38
import Derived.Test.YtmpgjkhchfcjlaaGreatDoorM39
import Derived.Test.YtmpgjkhchfcjlaaGreatDoorM41
import Derived.Test.YtmpgjkhchfcjlaaGreatDoorM44
namespace Go.Proofs.YtmpgjkhchfcjlaaGreatDoor
open Go.RowKit
set_option maxRecDepth 100000
set_option maxHeartbeats 4000000
theorem rE {c:Nat→Int}{L n r:Nat}{b d:Bool}(h:lQ c L n d)(k:cZ c L 80 19 r b):d= !b:=by
 rcases h with⟨rfl,h⟩|⟨rfl,h1,N,F,rfl⟩
 ·rw[←(h.same k).2];rfl
 ·have:cZ c L 80 19 0 false:=Or.inr ⟨h1,N,F.sp,Or.inr ⟨F.last,Or.inr ⟨F.ow,Or.inl ⟨rfl,rfl,F.DO⟩⟩⟩⟩
  rw[←(this.same k).2];rfl
theorem FA (w:World)(v vf:Value)(L:Nat)(c:Nat→Int)(hby:∀i,i<L→0≤c i∧c i≤255)(C:b9 w v L c)(l:List ByteArray)(S:SL w vf l)(hls:∀s∈l,s.size≤9223372036854775807)(r:Nat)(b:Bool)(hF:cZ c L 80 19 r b)(aa fuel:Int)(hne:ez b l fuel≠0)(hT:bK w):
  Calls Tryz.prog 37 #[v,vf,.int .u64 aa,.int .i64 fuel] w fun e w'=>e=.returned (.tuple #[.pointer none,.int .i64 (ez b l fuel)])∧Below w.heap.size w w':=by
 have H1:Hid (Calls Tryz.prog 62 #[v] w fun e w'=>(∃n:Nat,e=.returned (.tuple #[.int .i64 (n:Nat),.bool (!b)]))∧Below w.heap.size w w'):=(iX w v L c hby C hT).mono (by
  rintro e w' ⟨n,d,hc,rfl,B⟩;rw[rE hc hF]
  exact⟨⟨n,rfl⟩,B⟩)
 have H2:Hid (∀W,Below w.heap.size w W→Calls Tryz.prog 75 #[vf,.func (.func 76) #[] #[]] W fun e w'=>e=.returned (.bool (l.any fun s=>decide (24<s.size)))∧Below w.heap.size w w'):=fun W B=>(AJ W vf l (S.below B) hls).mono fun e w' ⟨x,y⟩=>⟨x,B.trans (y.mono B.size)⟩
 have H3:Hid (∀W,Calls Tryz.prog 77 #[.int .i64 fuel] W fun e w'=>e=.returned (.bool (decide (1≤fuel)&&decide (fuel≤500)))∧w'=W):=fun W=>iK W fuel
 obtain⟨pc,ax,rfl⟩:=C.form
 obtain⟨ao,cp,rfl⟩:∃ao cp,vf=.slice ao l.length cp:=by
  rcases S.form with⟨rfl,rfl⟩|⟨b,cp,rfl,_⟩
  ·exact⟨none,0,rfl⟩
  ·exact⟨_,cp,rfl⟩
 clear C S hF
 cases b with
 |true=>
  have e:ez true l fuel=1:=rfl;rw[e];clear H2 H3 hne e;generalize l.length=n at*;go_in;go_wp2_with fail
  refine H1.out.mono ?_;rintro e w1 ⟨⟨n,rfl⟩,B1⟩;have HB:=hid B1;clear B1;go_wp2;go_ret2
  exact⟨rfl,HB.out⟩
 |false=>
  have HE:Hid (ez false l fuel=if 8<l.length then 3 else if l.any (fun s=>decide (24<s.size))then 2 else if fuel<1∨500<fuel then 2 else 0):=rfl;by_cases h8:8<l.length
  ·have e:=HE.out.trans (if_pos h8);rw[e];have hi8:(8:Int)<(l.length:Int):=(by omega);clear H2 H3 hne HE e;generalize l.length=n at*;go_in;go_wp2_with fail
   refine H1.out.mono ?_;rintro e w1 ⟨⟨n,rfl⟩,B1⟩;have HB:=hid B1;clear B1;go_wp2;go_ret2
   exact⟨rfl,HB.out⟩
  ·have hi8:¬(8:Int)<(l.length:Int):=(by omega);have e2:ez false l fuel=2:=by
    have:=HE.out
    rw[if_neg h8]at this;by_cases c:(l.any fun s=>decide (24<s.size))=true
    ·rw[if_pos c]at this;exact this
    ·rw[if_neg c]at this;by_cases d:fuel<1∨500<fuel
     ·rw[if_pos d]at this;exact this
     ·rw[if_neg d]at this;exact absurd this hne
   have hff:(l.any fun s=>decide (24<s.size))=false→(decide (1≤fuel)&&decide (fuel≤500))=false:=fun c=>by
    have:=HE.out
    rw[if_neg h8,if_neg (by rw[c];decide)]at this;by_cases d:fuel<1∨500<fuel
    ·rw[Bool.and_eq_false_iff,decide_eq_false_iff_not,decide_eq_false_iff_not];omega
    ·rw[if_neg d]at this;exact absurd this hne
   rw[e2];clear hne HE e2
   generalize(l.any fun s=>decide (24<s.size))=an at*
   generalize l.length=n at*
   generalize(decide (1≤fuel)&&decide (fuel≤500))=ft at*
   go_in;go_wp2_with fail
   refine H1.out.mono ?_;rintro e w1 ⟨⟨n,rfl⟩,B1⟩;have HB:=hid B1;clear B1;go_wp2_with fail
   refine(H2.out w1 HB.out).mono ?_
   rintro e w2 ⟨rfl,B2⟩;have HB2:=hid B2;clear B2
   cases an with
   |true=>
    go_wp2;go_ret2
    exact⟨rfl,HB2.out⟩
   |false=>
    obtain rfl:=hff rfl;go_wp2_with fail
    refine(H3.out _).mono ?_
    rintro e w3 ⟨rfl,hw3⟩;obtain rfl:=hw3.symm;go_wp2;go_ret2
    exact⟨rfl,HB2.out⟩
theorem Iq {w:World}{U:Nat→Prop}{d:HD}{g:PG}{h:HS}(p:HG w U d g h)(q:jq g.R h)(ht:h.tries≤4611686018427380000)(n:Int):
  Calls Tryz.prog 14 #[.pointer (some ⟨d.H,0,none⟩),.int .i64 n] w fun e w'=>e=.returned (.int .i64 (zJ h n))∧aA U d.H g (AV g.R h n) w w':=by
 have H0:Hid (aA U d.H g h w w):=aA.of p.hu (Below.refl _ _);by_cases h1:n<1
 ·have e:zJ h n=2:=if_pos (Or.inl h1);have e2:AV g.R h n=h:=if_neg (by rw[e];decide);rw[e,e2];clear p;go_in;go_wp2;go_ret
  exact⟨rfl,H0.out⟩
 ·by_cases h2:2000<n
  ·have e:zJ h n=2:=if_pos (Or.inr h2);have e2:AV g.R h n=h:=if_neg (by rw[e];decide);rw[e,e2];clear p;go_in;go_wp2;go_ret
   exact⟨rfl,H0.out⟩
  ·obtain⟨m,rfl⟩:∃m:Nat,n=m:=⟨n.toNat,by omega⟩
   refine(I8 p m (by omega) (by omega) (fun c k hk=>(q.go g.mC c k).sz p.ok.EL (by rw[nY];omega))).mono ?_
   rintro e w' ⟨rfl,t⟩;have eE:zJ h (m:Nat)=if 0<h.kept.length then 0 else 4:=by
    unfold zJ;rw[if_neg (by omega)];by_cases c:h.kept.length=0
    ·rw[if_pos c,if_neg (by omega)]
    ·rw[if_neg c,if_pos (by omega)]
   have eS:AV g.R h (m:Nat)=h.gone g m:=by
    unfold AV HS.gone;rw[eE,Int.toNat_natCast];by_cases c:0<h.kept.length
    ·rw[if_pos c,if_pos c,if_pos rfl]
    ·rw[if_neg c,if_neg c,if_neg (by decide)]
   rw[eE,eS]
   exact⟨rfl,t⟩
theorem xI (w:World)(v:Value)(L:Nat)(c:Nat→Int)(hby:∀i,i<L→0≤c i∧c i≤255)(C:b9 w v L c)(log:ByteArray)(r:Nat)(b:Bool)(hF:cZ c L 80 19 r b)(aa fuel:Int)(hne:ez b [] fuel≠0)(hT:bK w):
  Calls Tryz.prog 40 #[v,.string log,.int .u64 aa,.int .i64 fuel] w fun e w'=>e=.returned (.tuple #[.pointer none,.int .i64 0,.int .i64 (ez b [] fuel)])∧Below w.heap.size w w':=by
 have H1:Hid (Calls Tryz.prog 62 #[v] w fun e w'=>(∃n:Nat,e=.returned (.tuple #[.int .i64 (n:Nat),.bool (!b)]))∧Below w.heap.size w w'):=(iX w v L c hby C hT).mono (by
  rintro e w' ⟨n,d,hc,rfl,B⟩;rw[rE hc hF]
  exact⟨⟨n,rfl⟩,B⟩)
 have H3:Hid (∀W,Calls Tryz.prog 77 #[.int .i64 fuel] W fun e w'=>e=.returned (.bool (decide (1≤fuel)&&decide (fuel≤500)))∧w'=W):=fun W=>iK W fuel
 obtain⟨pc,ax,rfl⟩:=C.form
 clear C hF
 cases b with
 |true=>
  have e:ez true [] fuel=1:=rfl;rw[e];clear H3 hne e;go_in;go_wp2_with fail
  refine H1.out.mono ?_;rintro e w1 ⟨⟨n,rfl⟩,B1⟩;have HB:=hid B1;clear B1;go_wp2;go_ret3
  exact⟨rfl,HB.out⟩
 |false=>
  have e1:ez false [] fuel=if fuel<1∨500<fuel then 2 else 0:=rfl
  have hd:fuel<1∨500<fuel:=Classical.byContradiction fun d=>by rw[e1,if_neg d]at hne;exact hne rfl
  have hff:(decide (1≤fuel)&&decide (fuel≤500))=false:=by rw[Bool.and_eq_false_iff,decide_eq_false_iff_not,decide_eq_false_iff_not];omega
  rw[e1,if_pos hd];rw[hff]at H3;clear hne e1 hff hd;go_in;go_wp2_with fail
  refine H1.out.mono ?_;rintro e w1 ⟨⟨n,rfl⟩,B1⟩;have HB:=hid B1;clear B1;go_wp2_with fail
  refine(H3.out _).mono ?_
  rintro e w3 ⟨rfl,hw3⟩;obtain rfl:=hw3.symm;go_wp2;go_ret3
  exact⟨rfl,HB.out⟩
structure PP where
 H:Nat
 Y:Nat
 g:PG
 h:HS
def dW (ps:List PP):List Value:=ps.flatMap fun p=>[.pointer (some ⟨p.H,0,none⟩),.pointer (some ⟨p.Y,0,none⟩)]
def wT:RT:=⟨2,fun r=>r==1,fun _=>51,2⟩
structure AY (w:World) (col:Nat→Nat) (T i:Nat) (p:PP):Prop where
 pg:uM p.g
 oh:jq p.g.R p.h
 tr:p.h.tries≤T
 x:∃d,d.H=p.H∧HU w (fun k=>col k=3+2*i) d p.g p.h
 y:∃d,DU w (fun k=>col k=4+2*i) p.Y d p.g p.h
structure WW (w:World) (A M L T:Nat) (col:Nat→Nat) (ps:List PP):Prop where
 lt:∀k,col k≠0→k<w.heap.size∧3≤k
 bk:Bk w (fun k=>col k=1) M (fun _=>L)
 ob:∃F,F 0=.pointer (some ⟨M,0,none⟩)∧OB wT A w F (fun _=>dW ps) (fun _=>ps.length)∧∀k,iB wT A F k→col k=2
 pr:∀i p,ps[i]?=some p→AY w col T i p
 tab:bK w
 pI:kT w
 len:ps.length≤L
structure Rc (col dm:Nat→Nat) (S:Nat→Prop) (w w':World):Prop where
 old:∀k,k<w.heap.size→dm k=col k
 lt:∀k,dm k≠0→k<w'.heap.size∧3≤k
 size:w.heap.size≤w'.heap.size
 same:∀k,k<w.heap.size→¬S (col k)→w'.heap[k]?=w.heap[k]?
section
variable {w w':World} {A M L T:Nat} {col dm:Nat→Nat} {ps:List PP} {S:Nat→Prop}
theorem WW.three (h:WW w A M L T col ps):3≤w.heap.size:=h.bk.lt.2
theorem WW.c0 (h:WW w A M L T col ps)(k:Nat)(hk:k<3):col k=0:=Classical.byContradiction fun c=>by have:=(h.lt k c).2;omega
theorem WW.tabs (h:WW w A M L T col ps)(r:Rc col dm S w w')(h0:¬S 0):bK w'∧kT w':=by
 exact⟨fun k hk=>(World.cell?_of_block (w:=w) (a:=⟨0,k,none⟩) (r.same 0 h.tab.pos (by rw[h.c0 0 (by omega)];exact h0))).trans (h.tab k hk),fun k hk=>(World.cell?_of_block (w:=w) (a:=⟨1,k,none⟩) (r.same 1 h.pI.two (by rw[h.c0 1 (by decide)];exact h0))).trans (h.pI k hk)⟩
theorem Rc.at (r:Rc col dm S w w'){c:Nat}(hc:c≠0)(hS:¬S c)(hl:∀k,col k≠0→k<w.heap.size∧3≤k):(∀k,col k=c→dm k=c)∧(∀k,col k=c→w'.heap[k]?=w.heap[k]?)∧(∀k,dm k=c→k<w'.heap.size)∧∀k,dm k=c→3≤k:=
 ⟨fun k hk=>(r.old k (hl k (by omega)).1).trans hk,fun k hk=>r.same k (hl k (by omega)).1 (by rw[hk];exact hS),fun k hk=>(r.lt k (by omega)).1,fun k hk=>(r.lt k (by omega)).2⟩
theorem WW.M5 (h:WW w A M L T col ps)(r:Rc col dm S w w')(hS:¬S 1):Bk w' (fun k=>dm k=1) M (fun _=>L):=by
 obtain⟨a,b,c,d⟩:=r.at (c:=1) (by omega) hS h.lt
 exact h.bk.keep r.size b a c d
theorem WW.LV (h:WW w A M L T col ps)(r:Rc col dm S w w')(hS:¬S 2):∃F,F 0=.pointer (some ⟨M,0,none⟩)∧OB wT A w' F (fun _=>dW ps) (fun _=>ps.length)∧∀k,iB wT A F k→dm k=2:=by
 obtain⟨a,b,c,d⟩:=r.at (c:=2) (by omega) hS h.lt
 obtain⟨F,h0,h1,h2⟩:=h.ob
 exact⟨F,h0,h1.keep r.size (fun k hk=>b k (h2 k hk)),fun k hk=>a k (h2 k hk)⟩
theorem AY.x' {i:Nat}{p:PP}(h:AY w col T i p)(hl:∀k,col k≠0→k<w.heap.size∧3≤k)(r:Rc col dm S w w')(hS:¬S (3+2*i)):∃d,d.H=p.H∧HU w' (fun k=>dm k=3+2*i) d p.g p.h:=by
 obtain⟨a,b,c,d⟩:=r.at (c:=3+2*i) (by omega) hS hl
 obtain⟨e,h1,h2⟩:=h.x
 exact⟨e,h1,h2.keep b a c d⟩
theorem AY.y' {i:Nat}{p:PP}(h:AY w col T i p)(hl:∀k,col k≠0→k<w.heap.size∧3≤k)(r:Rc col dm S w w')(hS:¬S (4+2*i)):∃d,DU w' (fun k=>dm k=4+2*i) p.Y d p.g p.h:=by
 obtain⟨a,b,c,d⟩:=r.at (c:=4+2*i) (by omega) hS hl
 obtain⟨e,h2⟩:=h.y
 exact⟨e,h2.keep r.size b a c d⟩
theorem AY.to {i:Nat}{p:PP}{T':Nat}(h:AY w col T i p)(hl:∀k,col k≠0→k<w.heap.size∧3≤k)(r:Rc col dm S w w')(h1:¬S (3+2*i))(h2:¬S (4+2*i))(hT:T≤T'):AY w' dm T' i p:=⟨h.pg,h.oh,Nat.le_trans h.tr hT,h.x' hl r h1,h.y' hl r h2⟩
def bC (A M L T:Nat)(col:Nat→Nat)(w:World)(e:Ending)(w':World):Prop:=
 e=.returned (.bool true)∧Fr (fun k=>col k≠0) w w'∧∃dm ps',WW w' A M (L+4) (T+2000) dm ps'∧∀k,k<w.heap.size→dm k=col k
theorem WW.below (h:WW w A M L T col ps)(b:Below w.heap.size w w'):WW w' A M L T col ps:=by
 have r:Rc col col (fun _=>False) w w':=⟨fun _ _=>rfl,fun k hk=>⟨Nat.lt_of_lt_of_le (h.lt k hk).1 b.size,(h.lt k hk).2⟩,b.size,fun k hk _=>b.block k hk⟩
 obtain⟨t,m⟩:=h.tabs r (fun c=>c)
 exact⟨r.lt,h.M5 r (fun c=>c),h.LV r (fun c=>c),fun i p hp=>(h.pr i p hp).to h.lt r (fun c=>c) (fun c=>c) (Nat.le_refl _),t,m,h.len⟩
theorem WW.more {L' T':Nat}(h:WW w A M L T col ps)(hL:L≤L')(hT:T≤T'):WW w A M L' T' col ps:=⟨h.lt,h.bk.more (fun _=>hL),h.ob,fun i p hp=>⟨(h.pr i p hp).pg,(h.pr i p hp).oh,Nat.le_trans (h.pr i p hp).tr hT,(h.pr i p hp).x,(h.pr i p hp).y⟩,h.tab,h.pI,Nat.le_trans h.len hL⟩
theorem WW.idle (h:WW w A M L T col ps)(b:Below w.heap.size w w'):bC A M L T col w (.returned (.bool true)) w':=⟨rfl,Fr.below b,col,ps,(h.below b).more (by omega) (by omega),fun _ _=>rfl⟩
theorem WW.uQ {e:Ending}(h:WW w A M L T col ps)(s:jJ (fun k=>col k=1) M (fun _=>L) w e w'):bC A M L T col w e w':=by
 obtain⟨rfl,f,b⟩:=s
 have hs:=f.size;have h3:=h.three
 obtain⟨dm,hcol⟩:∃dm:Nat→Nat,dm=fun k=>if k<w.heap.size then col k else if k<w'.heap.size then 1 else 0:=⟨_,rfl⟩
 have r:Rc col dm (fun c=>c=1) w w':=⟨fun k hk=>by rw[hcol];exact if_pos hk,fun k hk=>by
  rw[hcol]at hk;dsimp only at hk;split at hk
  ·exact⟨by omega,(h.lt k hk).2⟩
  ·split at hk
   ·exact⟨by omega,by omega⟩
   ·exact absurd rfl hk,hs,fun k hk hn=>f.block k hk hn⟩
 obtain⟨t,m⟩:=h.tabs r (by omega)
 have b':Bk w' (fun k=>dm k=1) M (fun _=>L+4):=b.keep (Nat.le_refl _) (fun _ _=>rfl) (fun k hk=>by
  rw[hcol];rcases hk with c|c
  ·show(if k<w.heap.size then col k else _)=1
   rw[if_pos (h.lt k (by omega)).1];exact c
  ·show(if k<w.heap.size then col k else if k<w'.heap.size then 1 else 0)=1
   rw[if_neg (by omega),if_pos c.2]) (fun k hk=>(r.lt k (by omega)).1) (fun k hk=>(r.lt k (by omega)).2)
 exact⟨rfl,f.wide (fun k hk=>by omega),dm,ps,⟨r.lt,b',h.LV r (by omega),fun i p hp=>(h.pr i p hp).to h.lt r (by omega) (by omega) (by omega),t,m,by have:=h.len;omega⟩,r.old⟩
theorem WW.gone {w1 w2:World}{i:Nat}{p:PP}{h':HS}(h:WW w A M L T col ps)(hp:ps[i]?=some p)(x:aA (fun k=>col k=3+2*i) p.H p.g h' w w1)(y:bu (fun k=>col k=4+2*i) p.Y p.g h' w1 w2)(q:jq p.g.R h')(ht:h'.tries≤T+2000):bC A M L T col w (.returned (.bool true)) w2:=by
 have hs:=x.fr.size;have hs2:=y.fr.size;have h3:=h.three
 obtain⟨dm,hcol⟩:∃dm:Nat→Nat,dm=fun k=>if k<w.heap.size then col k else if k<w1.heap.size then 3+2*i else if k<w2.heap.size then 4+2*i else 0:=⟨_,rfl⟩
 have c1:∀k,k<w.heap.size→dm k=col k:=fun k hk=>by rw[hcol];exact if_pos hk
 have c2:∀k,w.heap.size≤k→k<w1.heap.size→dm k=3+2*i:=fun k h1 h2=>by
  rw[hcol]
  show(if k<w.heap.size then col k else _)=_
  rw[if_neg (by omega),if_pos h2]
 have c3:∀k,w1.heap.size≤k→k<w2.heap.size→dm k=4+2*i:=fun k h1 h2=>by
  rw[hcol]
  show(if k<w.heap.size then col k else _)=_
  rw[if_neg (by omega),if_neg (by omega),if_pos h2]
 have r:Rc col dm (fun c=>c=3+2*i∨c=4+2*i) w w2:=⟨c1,fun k hk=>by
  by_cases d:k<w.heap.size
  ·rw[c1 k d]at hk;exact⟨by omega,(h.lt k hk).2⟩
  ·refine⟨Classical.byContradiction fun e=>hk ?_,by omega⟩
   rw[hcol]
   show(if k<w.heap.size then col k else _)=_
   rw[if_neg d,if_neg (by omega),if_neg e],by omega,fun k hk hn=>(y.fr.block k (by omega) (fun e=>hn (Or.inr e))).trans (x.fr.block k hk (fun e=>hn (Or.inl e)))⟩
 obtain⟨t,m⟩:=h.tabs r (by omega)
 obtain⟨d1,e1,g1⟩:=x.hu
 obtain⟨d2,g2⟩:=y.du
 have PWi:AY w2 dm (T+2000) i {p with h:=h'}:=by
  refine⟨(h.pr i p hp).pg,q,ht,⟨d1,e1,g1.keep (fun k hk=>y.fr.block k ?_ ?_) (fun k hk=> ?_) (fun k hk=>(r.lt k (by omega)).1) (fun k hk=>(r.lt k (by omega)).2)⟩,d2,g2.keep (Nat.le_refl _) (fun _ _=>rfl) (fun k hk=> ?_) (fun k hk=>(r.lt k (by omega)).1) (fun k hk=>(r.lt k (by omega)).2)⟩
  ·rcases hk with c|c
   ·have:=(h.lt k (by omega)).1;omega
   ·exact c.2
  ·intro e;rcases hk with c|c
   ·omega
   ·have:=(h.lt k (by omega)).1;omega
  ·rcases hk with c|c
   ·rw[c1 k (h.lt k (by omega)).1];exact c
   ·exact c2 k c.1 c.2
  ·rcases hk with c|c
   ·rw[c1 k (h.lt k (by omega)).1];exact c
   ·exact c3 k c.1 c.2
 have hil:=(List.getElem?_eq_some_iff.1 hp).1;have hpc:dW (ps.set i {p with h:=h'})=dW ps:=by
  have:∀(l:List PP) (j:Nat),l[j]?=some p→dW (l.set j {p with h:=h'})=dW l:=by
   intro l;induction l with
   |nil=>intro j hj;simp at hj
   |cons a l ih=>
    intro j hj
    cases j with
    |zero=>
     simp at hj;subst hj;rfl
    |succ j=>
     show _++dW (l.set j _)=_++dW l;rw[ih j (by simpa using hj)]
  exact this ps i hp
 refine⟨rfl,(x.fr.wide (fun k hk=>by omega)).trans (y.fr.wide (fun k hk=>Or.inl (by omega))),dm,ps.set i {p with h:=h'},⟨r.lt,(h.M5 r (by omega)).more (fun _=>Nat.le_add_right _ _),?_,fun j u hu=> ?_,t,m,by rw[List.length_set];have:=h.len;omega⟩,c1⟩
 ·obtain⟨F,f0,f1,f2⟩:=h.LV r (by omega)
  exact⟨F,f0,by rw[hpc,List.length_set];exact f1,f2⟩
 ·by_cases e:i=j
  ·subst e;rw[List.getElem?_set,if_pos rfl,if_pos hil]at hu;injection hu with hu;subst hu;exact PWi
  ·rw[List.getElem?_set,if_neg e]at hu
   exact(h.pr j u hu).to h.lt r (by omega) (by omega) (by omega)
end
theorem uT (w:World)(p:Option Addr)(cap:Nat):(Builtin.append_ #[41,41] 41 #[.slice none 0 0,.slice p 0 cap]).run Tryz.prog w=.ok (.slice none 0 0) w:=by
 obtain⟨i,hi,hz0,hz1,hz2⟩:=bB (t:=9) (z:=some (.string ⟨#[]⟩)) (s:=1) (b:=16) (by kernel_rfl)
 cases p<;>simp [Builtin.append_,run_underlying Tryz.underlying41,sizeOf,typeInfo,hi,loadCells,go_sem]
def spare:ByteArray:=⟨#[115,112,97,114,101]⟩
def gp (l:List ByteArray)(q:Nat):List Value:=mM (l++List.replicate q spare)
theorem zQ (l:List ByteArray)(q:Nat):gp l (q+1)=gp l q++[.string spare]:=by
 unfold gp mM;rw[List.replicate_succ',←List.append_assoc,List.map_append];rfl
theorem su (w:World)(v:Value)(l:List ByteArray)(T:TL w v l)(hL:(l.length+8)*16≤140737488355328):
  Calls Tryz.prog 36 #[v] w fun e w'=>∃g cap,e=.returned (.slice (some ⟨g,0,none⟩) (l.length+8) cap)∧w'.ownsRow w.heap.size 9 1 (.slice (some ⟨g,0,none⟩) (l.length+8) cap) (l.length+8) (gp l 8)∧Below w.heap.size w w':=by
 obtain⟨i,hi,hz0,hz1,hz2⟩:=bB (t:=9) (z:=some (.string ⟨#[]⟩)) (s:=1) (b:=16) (by kernel_rfl)
 obtain⟨ao,cp,rfl,hlc,hcp,hrow⟩:=T.form
 have H0:Hid (gp l 0=mM l):=by show gp l 0=mM l;simp[gp]
 have HLA:=hid (zQ l);have key:Hid (∀(W:World) (o:Value),Below w.heap.size w W→W.ownsRow w.heap.size 9 1 o l.length (mM l)→W.ownsRow w.heap.size 9 1 o (l.length+0) (gp l 0)):=fun W o _ h=>by rw[H0.out];exact h
 go_in;by_cases h0:l.length=0
 case' pos=>
  have hrun:(Builtin.append_ #[41,41] 41 #[.slice none 0 0,.slice ao l.length cp]).run Tryz.prog w=.ok (.slice none 0 0) w:=by rw[h0];exact uT w ao cp
  have O1:Hid (w.ownsRow w.heap.size 9 1 (.slice none 0 0) (l.length+0) (gp l 0)):=key.out _ _ (Below.refl _ _) (by rw[List.eq_nil_of_length_eq_zero h0];exact World.ownsRow_nil _ _ _ _);have B1:Below w.heap.size w w:=Below.refl _ _;clear h0;go_wp2_with(at_builtin;refine wp_append_run rfl (.tmp 5) (.tmp 6) 41 rfl _ _ _ rfl rfl hrun ?_)
  clear hrun;go_wp2_with fail
 case' neg=>
  obtain⟨b,o,rfl,hb,hc⟩:=hrow 0 (by omega)
  have hcell:Hid (∀(j:Nat) (u:Value),(mM l)[j]?=some u→w.cell? ((⟨b,o,none⟩:Addr).add j)=some u):=fun j u hu=>by
   have hj:j<l.length:=by have:=(List.getElem?_eq_some_iff.1 hu).1;simpa[mM]using this
   have ea:(⟨b,o,none⟩:Addr).add j=⟨b,o+j,none⟩:=by
    by_cases e:j=0
    ·subst e;simp[Addr.add]
    ·simp[Addr.add,e]
   rw[ea,hc j hj,←hu];simp[mM,List.getElem?_map,List.getElem?_eq_getElem hj,List.getD_eq_getElem?_getD]
  have hone:∀u∈mM l,u.oneCell'=true:=fun u hu=>by
   unfold mM at hu
   obtain⟨x,_,rfl⟩:=List.mem_map.1 hu
   rfl
  have hlen:(mM l).length=l.length:=by simp[mM]
  generalize mM l=bl at*;go_wp2_with(at_builtin;refine wpList_append_own_at _ rfl (.tmp 5) (.tmp 6) 41 rfl w.heap.size 9 i (.string ⟨#[]⟩) 1 16 Tryz.underlying41 hi hz0 hz1 hz2 rfl (by decide) _ 0 [] rfl (World.ownsRow_nil _ _ _ _) ⟨b,o,none⟩ l.length cp bl rfl (by omega) hcell.out hone (by unfold maxLen;omega) (by omega) (Nat.le_refl _) ?_)
  intro v1 w1 hown1 hgrow1 _ _;have B1:=(Below.refl w.heap.size w).grown hgrow1 (Nat.le_refl _) (fun k hk=>by cases hk);have O1:Hid (w1.ownsRow w.heap.size 9 1 v1 (l.length+0) (gp l 0)):=key.out _ _ B1 (by simpa using hown1);clear hown1 hgrow1;go_wp2_with fail
 all_goals
  go_loopw [3,4] (fun o k wr=>∃q:Nat,q≤8∧k=.int .i64 q∧wr.ownsRow w.heap.size 9 1 o (l.length+q) (gp l q)∧Below w.heap.size w wr) (fun _ k _=>8-(intOf k).toNat)
  case atStart=>exact ⟨0,by omega,rfl,O1.out,B1⟩
  case round=>
   clear O1 B1
   obtain⟨q,hq,rfl,hown,hB⟩:=hrel
   have hsz:=hB.size;have HO:=hid hown;have HN:=HLA.out q;have HNN:Hid _:=HN;clear HN;by_cases hlt:q<8
   ·have hi1:(q:Int)<8:=(by omega);clear hown;go_wp2_with(at_builtin;refine wpList_append_own_at _ rfl (.tmp 12) (.tmp 13) 41 rfl w.heap.size 9 i (.string ⟨#[]⟩) 1 16 Tryz.underlying41 hi hz0 hz1 hz2 rfl (by decide) _ _ _ rfl (HO.out.alloc _) ⟨_,0,none⟩ 1 1 [.string spare] rfl rfl (cell_one_new _ _ _) ?c2 (by unfold maxLen;omega) (by omega) (by simp;omega) ?_)
    case c2=>first|rfl|(intro u hu;simp at hu;subst hu;rfl)
    intro v' w6 hown' hgrow _ hat;have hB1:=(hB.alloc hsz (.cells #[.string spare] 9)).grown hgrow (by simp;omega) (fun k hk=>(HO.out.lt k hk).1);have HO1:Hid (w6.ownsRow w.heap.size 9 1 v' (l.length+(q+1)) (gp l (q+1))):=by
     show w6.ownsRow w.heap.size 9 1 v' _ _;rw[HNN.out];exact hown'
    clear hown' hgrow hat;go_wp2;go_roundw
    case rel=>exact ⟨q+1,by omega,by go_num,HO1.out,hB1⟩
    case measure=>simp [intOf];omega
   ·obtain rfl:q=8:=by omega
    obtain⟨g3,k3,rfl⟩:=aB hown (by omega)
    clear hown;go_wp2;go_ret
    exact⟨g3,k3,rfl,HO.out,hB⟩
def Ir (r:Nat)(B:Nat→Prop)(M:Nat)(L:Nat→Nat)(v:Value)(w:World)(e:Ending)(w':World):Prop:=
 e=.returned (.bool true)∧Fr (fun k=>B k∨v.ownBlock=some k) w w'∧Bk w' (Gr (fun k=>B k∨v.ownBlock=some k) w w') M (bump L r)
theorem xL {f:Nat→Value}{xs:List Value}{j:Nat}{x:Value}(h:xs[j]?=some x):(gu f j++xs.drop j)[j]?=some x:=by
 rw[List.getElem?_append_right (by rw[ia];exact Nat.le_refl _),ia,Nat.sub_self,List.getElem?_drop,Nat.add_zero];exact h
theorem D8 (l:List ByteArray):(gp l 8).length=l.length+8:=by simp[gp,mM]
theorem tG (l:List ByteArray){q:Nat}(h:q<l.length+8):(gp l 8)[q]?=some (.string (if q<l.length then l.getD q ⟨#[]⟩else spare)):=by
 unfold gp mM;rw[List.getElem?_map];by_cases c:q<l.length
 ·rw[List.getElem?_append_left c,if_pos c,List.getD_eq_getElem?_getD,List.getElem?_eq_getElem c];rfl
 ·rw[List.getElem?_append_right (by omega),List.getElem?_replicate,if_pos (by omega),if_neg c];rfl
theorem jZ {w:World}{B:Nat→Prop}{M:Nat}{Lb:Nat→Nat}(hb:Bk w B M Lb)(hLL:(Lb 8+4)*24≤140737488355328)(g cap L:Nat)(c:Nat→Int)(v:Value)
  (hg:w.ownsRow 0 5 1 (.slice (some ⟨g,0,none⟩) (L+8) cap) (L+8) (bM (dF c L) (L+8)))(hgB:¬B g∧3≤g)(C:b9 w v L c)(hvg:0<L→v.ownBlock≠some g)(hLn:L+8≤140737488355328):
  Calls Tryz.prog 31 #[.pointer (some ⟨M,0,none⟩),.slice (some ⟨g,0,none⟩) (L+8) cap,v] w (Ir 8 B M Lb (.slice (some ⟨g,0,none⟩) (L+8) cap) w):=by
 obtain⟨F,X,h,hL⟩:=hb
 obtain⟨i,hi,hz0,hz1,hz2⟩:=bB (t:=39) (z:=some (.slice none 0 0)) (s:=1) (b:=24) (by kernel_rfl)
 have HC:Hid (∀wr,w.grownBy wr (some g)→∀k,k<L→∃cb co ax,v=.slice (some ⟨cb,co,none⟩) L ax∧wr.cell? ⟨cb,co+k,none⟩=some (.int .u8 (c k))):=by
  intro wr s k hk
  cases C with
  |bare p cap hv hL0=>omega
  |full cb co ax hv C=>
   exact⟨cb,co,ax,hv,s.cell (a:=⟨cb,co+k,none⟩) (C.cell k hk) (fun e=>hvg (by omega) (by rw[hv];exact e))⟩
 have hxl:(bM (dF c L) (L+8)).length=L+8:=j5 _ _;have HX:Hid (∀q,q<L+8→(bM (dF c L) (L+8))[q]?=some (.int .u8 (if q<L then c q else 252))):=fun q hq=>j6 _ hq
 obtain⟨pv,capv,hvf⟩:=C.form
 subst hvf;have HV2:Hid (∀b,(Value.slice (some ⟨g,0,none⟩) (L+8) cap).ownBlock=some b→¬B b∧b<w.heap.size∧3≤b):=fun b e=>by
  obtain rfl:g=b:=by simpa[Value.ownBlock]using e
  exact⟨hgB.1,aL hg rfl,hgB.2⟩
 have HG0:=hid hg;have HB:Hid (BB w B M F X∧∀r,(X r).length≤Lb r):=⟨h,hL⟩;have hp:=hL 8;have hML:=h.ob.lt;have hcap:L+8≤cap∧cap≤9223372036854775807:=by
  rcases aO hg with⟨e,_⟩|⟨b,cp,e,_,h1,h2,_⟩
  ·cases e
  ·simp only[Value.slice.injEq]at e
   obtain⟨_,_,rfl⟩:=e
   exact⟨h2,h1⟩
 clear h hL C hg hgB hvg;generalize hxs:(bM (dF c L) (L+8))=xs at*;clear hxs;go_in;go_wp2_with fail
 go_loopw [7,8,9] (fun ok k _ wr=>∃q:Nat,q≤L+8∧ok=.bool true∧k=.int .i64 q∧wr.ownsRow 0 5 1 (.slice (some ⟨g,0,none⟩) (L+8) cap) (L+8) (gu (eB 8 0) q++xs.drop q)∧w.grownBy wr (some g)) (fun _ k _ _=>(L+8)-(intOf k).toNat)
 case atStart=>exact ⟨0,by omega,rfl,rfl,HG0.out,⟨rfl,rfl,rfl,Nat.le_refl _,fun _ _ _=>rfl⟩⟩
 case round=>
  clear HG0
  obtain⟨q,hq,rfl,rfl,ho,hgr⟩:=hrel
  by_cases hql:q<L+8
  ·obtain⟨s1,s2,s3,_⟩:=pJ ho (by omega)
   have cg:wr.cell? ⟨g,q,none⟩=some (.int .u8 (if q<L then c q else 252)):=by
    have:=ho.cells (g:=g) rfl q _ (xL (HX.out q hql))
    rw[Addr.add_lit]at this;simpa using this
   have HN:Hid ((wr.setCell ⟨g,q,none⟩ (.int .u8 251)).ownsRow 0 5 1 (.slice (some ⟨g,0,none⟩) (L+8) cap) (L+8) (gu (eB 8 0) (q+1)++xs.drop (q+1))∧w.grownBy (wr.setCell ⟨g,q,none⟩ (.int .u8 251)) (some g)):=⟨s1,World.grownBy.trans' hgr s2⟩;have hi1:(q:Int)<(L:Int)+8:=(by omega);by_cases hc:q<L
   ·obtain⟨cb,co,ax,hv,cl⟩:=HC.out wr hgr q hc
    simp only[Value.slice.injEq]at hv
    obtain⟨rfl,_,rfl⟩:=hv
    rw[if_pos hc]at cg;have hi2:(q:Int)<(L:Int):=(by omega);clear ho s1 s2 hgr;generalize c q=cq at*;go_wp2_with fail
    go_roundw
    case rel=>exact ⟨q+1,by omega,by first|rfl|simp,by go_num,HN.out.1,HN.out.2⟩
    case measure=>simp [intOf];omega
   ·rw[if_neg hc]at cg;have hi2:¬(q:Int)<(L:Int):=(by omega);clear ho s1 s2 hgr;go_wp2_with fail
    go_roundw
    case rel=>exact ⟨q+1,by omega,by first|rfl|simp,by go_num,HN.out.1,HN.out.2⟩
    case measure=>simp [intOf];omega
  ·obtain rfl:q=L+8:=by omega
   have ho':wr.ownsRow 0 (KJ 8) (rU 8) (.slice (some ⟨g,0,none⟩) (L+8) cap) (L+8) (gu (eB 8 0) ((L+8)*rU 8)):=by
    rw[List.drop_eq_nil_of_le (by omega),List.append_nil]at ho;show wr.ownsRow 0 5 1 _ _ (gu (eB 8 0) ((L+8)*1));rw[Nat.mul_one];exact ho
   have O3:=HB.out.1.mid (v:=.slice (some ⟨g,0,none⟩) (L+8) cap) hgr (fun b e=>(HV2.out b e).1) (Sm.refl wr);have HO3:=hid O3;have cq:=O3.cell 8 (by decide)
   obtain⟨n8,hn8⟩:∃n,(X 8).length=n:=⟨_,rfl⟩
   have rq:wr.ownsRow 0 39 1 (F 8) n8 (X 8):=by have:=O3.own 8 (eN (by omega));rw[hn8]at this;exact this
   have HRQ:=hid rq
   obtain⟨aq,kq,eq⟩:=cT rq
   have HEQ:=hid eq;rw[eq]at cq HRQ;rw[hn8]at hp;have HN8:=hid hn8;have HR:Hid (_∧w.grownBy wr (some g)):=And.intro ho' hgr;have hnn:¬(L:Int)+8<(L:Int)+8:=(by omega);have hsz:=hgr.size;clear rq eq O3 ho ho' hgr hn8 HC HX;go_wp2_with(at_builtin;refine wpList_append_own_at _ rfl (.tmp 40) (.tmp 42) 28 rfl 0 39 i (.slice none 0 0) 1 24 Tryz.underlying28 hi hz0 hz1 hz2 rfl (by decide) _ n8 _ rfl (HRQ.out.alloc _) ⟨_,0,none⟩ 1 1 [.slice (some ⟨g,0,none⟩) (L+8) cap] rfl rfl (cell_one_new _ _ _) ?c2 (by unfold maxLen;omega) (by omega) (by simp) ?_)
   case c2=>first|rfl|(intro u hu;simp at hu;subst hu;rfl)
   intro v4 w4 ho4 hg4 _ hat4
   obtain⟨g4,k4,rfl⟩:=aB ho4 (by omega)
   rw[←HEQ.out,←World.size_alloc (o:=.cells #[.slice (some ⟨g,0,none⟩) (L+8) cap] 39)]at hat4;rw[←HEQ.out]at hg4
   obtain⟨c5,f5⟩:=(HO3.out.alloc _).got 8 (eN (by omega)) hg4
   rw[HEQ.out]at c5
   obtain⟨F',X',r1,r2,r3⟩:=HB.out.1.KL 8 (by omega) HR.out.1 HR.out.2 HV2.out (Sm.refl wr) hg4 (by rw[HN8.out];exact ho4) hat4
   have HALL:Hid (Ir 8 B M Lb (.slice (some ⟨g,0,none⟩) (L+8) cap) w (.returned (.bool true)) (w4.setCell ⟨M,8,none⟩ (.slice (some ⟨g4,0,none⟩) (n8+1) k4))):=⟨rfl,r3,F',X',r1,fun r=>by
    have h1:=r2 r;have h2:=HB.out.2 r;unfold bump;by_cases c:r=8
    ·rw[if_pos c]at h1;rw[if_pos (Or.inl c)];omega
    ·rw[if_neg c]at h1;split<;>omega⟩
   clear r1 r2 r3 ho4 hg4 hat4 HB HV2 HO3 HRQ HR;go_wp2;go_ret;exact HALL.out
theorem rH {w:World}{B:Nat→Prop}{M:Nat}{Lb:Nat→Nat}(hb:Bk w B M Lb)(hLL:(Lb 9+4)*24≤140737488355328)(g cap:Nat)(l:List ByteArray)(v:Value)
  (hg:w.ownsRow 0 9 1 (.slice (some ⟨g,0,none⟩) (l.length+8) cap) (l.length+8) (gp l 8))(hgB:¬B g∧3≤g)(T:TL w v l)(hvg:0<l.length→v.ownBlock≠some g)(hLn:(l.length+8)*16≤140737488355328):
  Calls Tryz.prog 39 #[.pointer (some ⟨M,0,none⟩),.slice (some ⟨g,0,none⟩) (l.length+8) cap,v] w (Ir 9 B M Lb (.slice (some ⟨g,0,none⟩) (l.length+8) cap) w):=by
 obtain⟨F,X,h,hL⟩:=hb
 obtain⟨i,hi,hz0,hz1,hz2⟩:=bB (t:=41) (z:=some (.slice none 0 0)) (s:=1) (b:=24) (by kernel_rfl)
 have HC:Hid (∀wr,w.grownBy wr (some g)→∀k,k<l.length→∃cb co ax,v=.slice (some ⟨cb,co,none⟩) l.length ax∧wr.cell? ⟨cb,co+k,none⟩=some (.string (l.getD k ⟨#[]⟩))):=by
  intro wr s k hk
  obtain⟨ao,cap,rfl,_,_,h4⟩:=T.form
  obtain⟨cb,co,rfl,hb,hc⟩:=h4 k hk
  exact⟨cb,co,cap,rfl,s.cell (a:=⟨cb,co+k,none⟩) (hc k hk) (fun e=>hvg (by omega) e)⟩
 have hxl:=D8 l;have HX:Hid (∀q,q<l.length+8→(gp l 8)[q]?=some (.string (if q<l.length then l.getD q ⟨#[]⟩else spare))):=fun q hq=>tG l hq
 obtain⟨pv,capv,hvf,hlc,hcm,_⟩:=T.form
 subst hvf;have HV2:Hid (∀b,(Value.slice (some ⟨g,0,none⟩) (l.length+8) cap).ownBlock=some b→¬B b∧b<w.heap.size∧3≤b):=fun b e=>by
  obtain rfl:g=b:=by simpa[Value.ownBlock]using e
  exact⟨hgB.1,aL hg rfl,hgB.2⟩
 have HG0:=hid hg;have HB:Hid (BB w B M F X∧∀r,(X r).length≤Lb r):=⟨h,hL⟩;have hp:=hL 9;have hML:=h.ob.lt;have hcap:l.length+8≤cap∧cap≤9223372036854775807:=by
  rcases aO hg with⟨e,_⟩|⟨b,cp,e,_,h1,h2,_⟩
  ·cases e
  ·simp only[Value.slice.injEq]at e
   obtain⟨_,_,rfl⟩:=e
   exact⟨h2,h1⟩
 clear h hL T hg hgB hvg;generalize hxs:(gp l 8)=xs at*;clear hxs;go_in;go_wp2_with fail
 go_loopw [7,8,9] (fun ok k _ wr=>∃q:Nat,q≤l.length+8∧ok=.bool true∧k=.int .i64 q∧wr.ownsRow 0 9 1 (.slice (some ⟨g,0,none⟩) (l.length+8) cap) (l.length+8) (gu (eB 9 0) q++xs.drop q)∧w.grownBy wr (some g)) (fun _ k _ _=>(l.length+8)-(intOf k).toNat)
 case atStart=>exact ⟨0,by omega,rfl,rfl,HG0.out,⟨rfl,rfl,rfl,Nat.le_refl _,fun _ _ _=>rfl⟩⟩
 case round=>
  clear HG0
  obtain⟨q,hq,rfl,rfl,ho,hgr⟩:=hrel
  by_cases hql:q<l.length+8
  ·obtain⟨s1,s2,s3,_⟩:=pJ ho (by omega)
   have cg:wr.cell? ⟨g,q,none⟩=some (.string (if q<l.length then l.getD q ⟨#[]⟩else spare)):=by
    have:=ho.cells (g:=g) rfl q _ (xL (HX.out q hql))
    rw[Addr.add_lit]at this;simpa using this
   have HN:Hid ((wr.setCell ⟨g,q,none⟩ (.string EB)).ownsRow 0 9 1 (.slice (some ⟨g,0,none⟩) (l.length+8) cap) (l.length+8) (gu (eB 9 0) (q+1)++xs.drop (q+1))∧w.grownBy (wr.setCell ⟨g,q,none⟩ (.string EB)) (some g)):=⟨s1,World.grownBy.trans' hgr s2⟩;have hi1:(q:Int)<(l.length:Int)+8:=(by omega);by_cases hc:q<l.length
   ·obtain⟨cb,co,ax,hv,cl⟩:=HC.out wr hgr q hc
    simp only[Value.slice.injEq]at hv
    obtain⟨rfl,_,rfl⟩:=hv
    rw[if_pos hc]at cg;have hi2:(q:Int)<(l.length:Int):=(by omega);clear ho s1 s2 hgr;generalize l.getD q ⟨#[]⟩=cq at*;go_wp2_with fail
    go_roundw
    case rel=>exact ⟨q+1,by omega,by first|rfl|simp,by go_num,HN.out.1,HN.out.2⟩
    case measure=>simp [intOf];omega
   ·rw[if_neg hc]at cg;replace cg:wr.cell? ⟨g,q,none⟩=some (.string ⟨#[115,112,97,114,101]⟩):=cg;have hi2:¬(q:Int)<(l.length:Int):=(by omega);clear ho s1 s2 hgr;go_wp2_with fail
    go_roundw
    case rel=>exact ⟨q+1,by omega,by first|rfl|simp,by go_num,HN.out.1,HN.out.2⟩
    case measure=>simp [intOf];omega
  ·obtain rfl:q=l.length+8:=by omega
   have ho':wr.ownsRow 0 (KJ 9) (rU 9) (.slice (some ⟨g,0,none⟩) (l.length+8) cap) (l.length+8) (gu (eB 9 0) ((l.length+8)*rU 9)):=by
    rw[List.drop_eq_nil_of_le (by omega),List.append_nil]at ho;show wr.ownsRow 0 9 1 _ _ (gu (eB 9 0) ((l.length+8)*1));rw[Nat.mul_one];exact ho
   have O3:=HB.out.1.mid (v:=.slice (some ⟨g,0,none⟩) (l.length+8) cap) hgr (fun b e=>(HV2.out b e).1) (Sm.refl wr);have HO3:=hid O3;have cq:=O3.cell 9 (by decide)
   obtain⟨n8,hn8⟩:∃n,(X 9).length=n:=⟨_,rfl⟩
   have rq:wr.ownsRow 0 41 1 (F 9) n8 (X 9):=by have:=O3.own 9 (eN (by omega));rw[hn8]at this;exact this
   have HRQ:=hid rq
   obtain⟨aq,kq,eq⟩:=cT rq
   have HEQ:=hid eq;rw[eq]at cq HRQ;rw[hn8]at hp;have HN8:=hid hn8;have HR:Hid (_∧w.grownBy wr (some g)):=And.intro ho' hgr;have hnn:¬(l.length:Int)+8<(l.length:Int)+8:=(by omega);have hsz:=hgr.size;clear rq eq O3 ho ho' hgr hn8 HC HX;go_wp2_with(at_builtin;refine wpList_append_own_at _ rfl (.tmp 40) (.tmp 42) 30 rfl 0 41 i (.slice none 0 0) 1 24 Tryz.underlying30 hi hz0 hz1 hz2 rfl (by decide) _ n8 _ rfl (HRQ.out.alloc _) ⟨_,0,none⟩ 1 1 [.slice (some ⟨g,0,none⟩) (l.length+8) cap] rfl rfl (cell_one_new _ _ _) ?c2 (by unfold maxLen;omega) (by omega) (by simp) ?_)
   case c2=>first|rfl|(intro u hu;simp at hu;subst hu;rfl)
   intro v4 w4 ho4 hg4 _ hat4
   obtain⟨g4,k4,rfl⟩:=aB ho4 (by omega)
   rw[←HEQ.out,←World.size_alloc (o:=.cells #[.slice (some ⟨g,0,none⟩) (l.length+8) cap] 41)]at hat4;rw[←HEQ.out]at hg4
   obtain⟨c5,f5⟩:=(HO3.out.alloc _).got 9 (eN (by omega)) hg4
   rw[HEQ.out]at c5
   obtain⟨F',X',r1,r2,r3⟩:=HB.out.1.KL 9 (by omega) HR.out.1 HR.out.2 HV2.out (Sm.refl wr) hg4 (by rw[HN8.out];exact ho4) hat4
   have HALL:Hid (Ir 9 B M Lb (.slice (some ⟨g,0,none⟩) (l.length+8) cap) w (.returned (.bool true)) (w4.setCell ⟨M,9,none⟩ (.slice (some ⟨g4,0,none⟩) (n8+1) k4))):=⟨rfl,r3,F',X',r1,fun r=>by
    have h1:=r2 r;have h2:=HB.out.2 r;unfold bump;by_cases c:r=9
    ·rw[if_pos c]at h1;rw[if_pos (Or.inl c)];omega
    ·rw[if_neg c]at h1;split<;>omega⟩
   clear r1 r2 r3 ho4 hg4 hat4 HB HV2 HO3 HRQ HR;go_wp2;go_ret;exact HALL.out
structure Mb (w w0:World) (kd p n f:Int) (cv:Value) (s t:ByteArray) (sd:Int) (fv:Value):Prop where
 dY:Below w.heap.size w w0
 size:w0.heap.size=w.heap.size+1
 c0:w0.cell? ⟨w.heap.size,0,none⟩=some (.int .i64 kd)
 c1:w0.cell? ⟨w.heap.size,1,none⟩=some (.int .i64 p)
 c2:w0.cell? ⟨w.heap.size,2,none⟩=some (.int .i64 n)
 c3:w0.cell? ⟨w.heap.size,3,none⟩=some (.int .i64 f)
 c4:w0.cell? ⟨w.heap.size,4,none⟩=some cv
 c5:w0.cell? ⟨w.heap.size,5,none⟩=some (.string s)
 c6:w0.cell? ⟨w.heap.size,6,none⟩=some (.string t)
 c7:w0.cell? ⟨w.heap.size,7,none⟩=some (.int .u64 sd)
 c8:w0.cell? ⟨w.heap.size,8,none⟩=some fv
theorem Da (w:World)(kd p n f:Int)(cv:Value)(s t:ByteArray)(sd:Int)(fv:Value):Mb w (w.alloc (.cells (dw kd p n f cv s t sd fv) 43)) kd p n f cv s t sd fv:=by
 have hh:=heap_alloc_new w (.cells (dw kd p n f cv s t sd fv) 43)
 exact⟨(Below.refl _ _).alloc (Nat.le_refl _) _,by simp,cell_of_row _ _ _ _ _ _ hh,cell_of_row _ _ _ _ _ _ hh,cell_of_row _ _ _ _ _ _ hh,cell_of_row _ _ _ _ _ _ hh,cell_of_row _ _ _ _ _ _ hh,cell_of_row _ _ _ _ _ _ hh,cell_of_row _ _ _ _ _ _ hh,cell_of_row _ _ _ _ _ _ hh,cell_of_row _ _ _ _ _ _ hh⟩
structure iD (B:Nat→Prop) (w:World) (cv:Value) (L:Nat) (c:Nat→Int):Prop where
 cR:b9 w cv L c
 byte:∀i,i<L→0≤c i∧c i≤255
 most:L+8≤140737488355328
 out:0<L→∀g,cv.ownBlock=some g→¬B g∧g<w.heap.size
theorem b9.same {w w':World}{v:Value}{L:Nat}{c:Nat→Int}(h:b9 w v L c)(hb:0<L→∀g,v.ownBlock=some g→w'.heap[g]?=w.heap[g]?):b9 w' v L c:=by
 by_cases h0:0<L
 ·exact h.keep (fun g hg _=>hb h0 g hg)
 ·obtain⟨p,cap,rfl⟩:=h.form
  obtain rfl:L=0:=by omega
  exact .bare p cap rfl rfl
theorem xP (W0:Nat){w:World}{B:Nat→Prop}{M:Nat}{L0:Nat→Nat}(hb:Bk w B M L0)(hl:∀r,(L0 r+4)*24≤140737488355328)(hw:w.cell? ⟨W0,0,none⟩=some (.pointer (some ⟨M,0,none⟩)))(hT:bK w)(p n f:Int){cv:Value}{L:Nat}{c:Nat→Int}(C:iD B w cv L c)(s t:ByteArray)(sd:Int)(b:Option Addr)(k e:Nat):
  Calls Tryz.prog 9 #[.pointer (some ⟨W0,0,none⟩),.agg (dw 1 p n f cv s t sd (.slice b k e))] w (jJ B M L0 w):=by
 obtain⟨pc,ax,rfl⟩:=C.cR.form
 have hW0:=block_lt_of_cell hw;have O:=Da w 1 p n f (.slice pc L ax) s t sd (.slice b k e);have O0:=O.c0;have O3:=O.c3;have O4:=O.c4;have O5:=O.c5;have HO:Hid _:=O;clear O;go_in;go_wp2_with(refine aF rfl 43 _ rfl (.agg (dw 1 p n f (.slice pc L ax) s t sd (.slice b k e))) rfl (dw 1 p n f (.slice pc L ax) s t sd (.slice b k e)) (gI _ _ _ _ _ _ _ _ _ _ _ _ _) ?_)
 generalize(w.alloc (.cells (dw 1 p n f (.slice pc L ax) s t sd (.slice b k e)) 43))=w0 at*
 have hz0:=HO.out.size;have B0:=HO.out.dY
 refine(ld w0 (.slice pc L ax) L c (C.cR.below B0) C.most).mono ?_
 rintro e1 w1 ⟨g,cap,rfl,hown,B1⟩;have B01:=B0.trans (B1.mono B0.size);have hg:=hown.lt g rfl
 obtain⟨Cin,hcap,hcap'⟩:=j7 hown
 have hL:=C.most;have hi1:(L:Int)≤(cap:Int):=by omega
 have HOWN:=hid (dN hown (Nat.zero_le _));have a0:=cS B1 O0;have HB:=hid hb;clear hown hb;go_wp2_with fail
 refine(yh w1 _ L c C.byte Cin (hT.below B01)).mono ?_
 rintro e2 w2 ⟨n1,b1,hC1,rfl,B2⟩
 obtain⟨q,hq⟩:∃q:Int,(if b1=true then(0:Int)else 1)=q:=⟨_,rfl⟩
 rw[hq];have HQ:=hid hq;clear hq;have B02:=B01.trans (B2.mono B01.size);go_wp2_with fail
 refine(yt w2 _ L c C.byte (C.cR.below B02)).mono ?_
 rintro e3' w3 ⟨n2,b2,hC2,rfl,B3⟩
 obtain⟨rfl,rfl⟩:=yu hC1 hC2
 rw[HQ.out];have B03:=B02.trans (B3.mono B02.size);have B13:=B2.trans (B3.mono B2.size);have s13:=B13.size;have hw3:=cS B03 hw;have hB:=HB.out.lt;have HSQ:=hid (Sq.of HB.out B03);have WH:=jZ HSQ.out.bk (hl 8) g cap L c (.slice pc L ax) (ay HOWN.out (fun k hk=>B13.block k (aL HOWN.out hk))) ⟨fun q=>by have:=(hB.1 g q).1;omega,by omega⟩ (C.cR.below B03) (fun h0 e=>by have:=(C.out h0 g e).2;omega) C.most;have HWH:=hid WH;have HG:Hid (w.heap.size≤g∧g<w3.heap.size):=⟨by omega,by omega⟩;clear WH hC1 hC2 HQ B0 B1 B2 B3 B01 B02 B03 B13 HB HOWN Cin C hg hB;go_wp2_with(go_at_call 16;refine(ju _ _).mono ?_;rintro e' w' ⟨rfl,hw'⟩;obtain rfl:=hw'.symm)
 refine HWH.out.mono ?_;rintro _ w4 ⟨rfl,f4,b4⟩;have HF:Hid (jJ B M L0 w (.returned (.bool true)) w4):=(HSQ.out.own f4 b4 (fun q hq=>by
  obtain rfl:g=q:=by simpa[Value.ownBlock]using hq
  exact HG.out)).fin (fun r=>by simp only[bump];(repeat' split)<;>omega)
 clear f4 b4;go_wp2_with fail
 go_ret;exact HF.out
end Go.Proofs.YtmpgjkhchfcjlaaGreatDoor
