import Derived.Test.YtmpgjkhchfcjlaaGreatDoorM08
namespace Go.Proofs.YtmpgjkhchfcjlaaGreatDoor
open Go.RowKit
set_option maxHeartbeats 4000000
set_option maxRecDepth 100000
theorem u6 (w:World)(p:Option Addr)(cap:Nat)(probes:Bool):
  Calls Tryz.prog 61 #[.slice p 0 cap,.bool probes] w fun e w'=>e=.returned (.tuple #[.slice none 0 0,.int .i64 (-1)])∧w'=w:=by
 have hdec:decide ((0:Int)<(0:Int))=false:=by simp
 go_in;go_wp2;go_loopw [6,7] (fun o i wr=>i=.int .i64 0∧o=.slice none 0 0∧wr=w) (fun _ i _=>0)
 case atStart=>exact ⟨rfl,rfl,rfl⟩
 case round=>
  obtain⟨rfl,rfl,rfl⟩:=hrel
  go_wp2_with fail
  go_ret2
  exact⟨rfl,rfl⟩
theorem vL (w:World)(p:Option Addr)(cap:Nat)(most:Int)(probes:Bool)(hm:0≤most):
  Calls Tryz.prog 58 #[.slice p 0 cap,.int .i64 most,.bool probes] w fun e w'=>e=.returned (.int .i64 0)∧w'=w:=by
 have h80:¬most<(0:Int):=by omega
 have h80':decide (most<(0:Int))=false:=by simp;omega
 go_in;go_wp2_with fail
 refine(u6 w p cap probes).mono ?_
 rintro e w1 ⟨rfl,rfl⟩;go_wp2_with fail
 go_ret
 exact⟨rfl,rfl⟩
theorem vM (c:Nat→Int)(N X:Nat):((List.range N).any fun i=>((pos c i:Nat):Int)==(X:Int))=started c N X:=by
 unfold started;congr 1
 funext i
 rw[Bool.eq_iff_iff]
 simp
 omega
def iF (c:Nat→Int)(L most:Nat)(probes:Bool)(w:World)(e:Ending)(w':World):Prop:=
 ∃r b,cZ c L most (ym probes) r b∧e=.returned (.int .i64 (if b then(r:Nat)else -1))∧Below w.heap.size w w'
theorem oV (w:World)(cb co L cap most:Nat)(c:Nat→Int)(probes:Bool)(hm:most≤240)(hby:∀i,i<L→0≤c i∧c i≤255)(C:Laid w cb co L cap c):
  Calls Tryz.prog 58 #[.slice (some ⟨cb,co,none⟩) L cap,.int .i64 (most:Int),.bool probes] w (iF c L most probes w):=by
 by_cases hL:most<L
 ·have h1:(most:Int)<(L:Int):=by omega
  have h2:decide ((most:Int)<(L:Int))=true:=by simpa using h1
  go_in;go_wp2_with fail
  go_ret;unfold iF
  exact⟨most,true,Or.inl ⟨hL,rfl,rfl⟩,rfl,Below.refl _ _⟩
 ·have h1:¬(most:Int)<(L:Int):=by omega
  have h2:decide ((most:Int)<(L:Int))=false:=by simp;omega
  have hpos:=C.ny;go_in;go_wp2_with fail
  refine(js w cb co L cap c probes (by omega) hby C).mono ?_
  rintro e w1 ⟨N,S,B1,⟨hlt,hsb,rfl⟩|⟨hN,v,hown,rfl⟩⟩
  ·have hge:(0:Int)≤(pos c N:Int):=(by omega);have hge':decide ((0:Int)≤(pos c N:Int))=true:=(by simp);go_wp2_with fail
   go_ret;unfold iF
   exact⟨pos c N,true,Or.inr ⟨by omega,N,S,Or.inl ⟨hlt,hsb,rfl,rfl⟩⟩,rfl,B1⟩
  ·have hN0:0<N:=by
    cases N with
    |zero=>have:pos c 0=0:=rfl
           omega
    |succ n=>omega
   have hN240:=S.count
   obtain⟨g,cp,rfl⟩:=aB hown hN0
   have hgl:=(hown.lt g rfl).1;have hcell:∀i,i<N→w1.cell? ⟨g,i,none⟩=some (.int .i64 (pos c i)):=fun i hi=>(qH (f:=fun i=>(pos c i:Int)) hown hi).2
   clear hown
   obtain⟨n,rfl⟩:∃n,N=n+1:=⟨N-1,by omega⟩
   have hdec':(((n+1:Nat):Int)==0)=false:=by rw[beq_eq_false_iff_ne];omega
   have hl1:=hcell n (by omega);have hlp:pos c n<L:=S.lt (by omega);have hll:=(C.below B1).cell (pos c n) hlp;have hi1:(n:Int)<((n+1:Nat):Int):=(by omega);have hi2:((pos c n:Nat):Int)<(L:Int):=(by omega);have hwell:dL c (n+1)=fZ (c (pos c n)):=by unfold dL;rw[if_neg (by omega),Nat.add_sub_cancel]
   have hbn:=S.byte _ hlp
   obtain⟨x,hx⟩:∃x,c (pos c n)=x:=⟨_,rfl⟩
   rw[hx]at hll hwell hbn;have hb0:=hbn.1;have hb1:=hbn.2
   cases hen:fZ x with
   |false=>
    have hz:(¬x=0)∧(¬x=14)∧(¬x=19):=by
     unfold fZ at hen;simp at hen;omega
    obtain⟨z0,z1,z2⟩:=hz
    have y0:(x !=0)=true:=(by simpa using z0);have y1:(x !=14)=true:=(by simpa using z1);have y2:(x !=19)=true:=(by simpa using z2);have HW:Hid (dL c (n+1)=false):=by rw[hen]at hwell;exact hwell
    clear hwell hen hbn hcell;go_wp2_with fail
    go_ret;unfold iF
    exact⟨L,true,Or.inr ⟨by omega,n+1,S,Or.inr ⟨hN,Or.inl ⟨HW.out,rfl,rfl⟩⟩⟩,rfl,B1⟩
   |true=>
    have HW:Hid (dL c (n+1)=true):=by rw[hen]at hwell;exact hwell
    have hz:x=0∨(¬x=0)∧x=14∨(¬x=0)∧(¬x=14)∧x=19:=by
     unfold fZ at hen;simp at hen;omega
    have HC:Hid (∀i,i<n+1→w1.cell? ⟨g,i,none⟩=some (.int .i64 (pos c i))):=hcell;clear hcell hwell hen hbn;rcases hz with e|⟨e0,e⟩|⟨e0,e1,e⟩;rotate_left
    focus have y0:(x !=0)=true:=by simpa using e0
    rotate_left
    focus
     have y0:(x !=0)=true:=(by simpa using e0);have y1:(x !=14)=true:=by simpa using e1
    all_goals
     subst e;go_wp2_with fail
     go_loopw [10] (fun i wr=>∃t:Nat,t≤n+1∧i=.int .i64 t∧(∀s,s<t→iE c (n+1) s=false)∧wr=w1) (fun i _=>n+1-(intOf i).toNat)
     case atStart=>exact ⟨0,by omega,rfl,fun _ h=>by omega,rfl⟩
     case round=>
      obtain⟨t,ht,rfl,hgood,hwr⟩:=hrel
      obtain rfl:=hwr.symm;by_cases hlt:t<n+1
      ·obtain⟨kk,A,_⟩:=S.at hlt
       have ht1:=HC.out t hlt;have hck:=(C.below B1).cell (pos c t) A.lt;rw[A.op]at hck;have h5:=A.lt;have h6:=A.fits;have hop:=A.op;have hi3:(t:Int)<((n+1:Nat):Int):=(by omega);have hi4:((pos c t:Nat):Int)<(L:Int):=(by omega);have HN:iE c (n+1) t=false→∀s,s<t+1→iE c (n+1) s=false:=fun hb s hs=>by
        by_cases e:s=t
        ·subst e;exact hb
        ·exact hgood s (by omega)
       have HG:Hid (∀s,s<t→iE c (n+1) s=false):=hgood;clear A hgood
       cases hlb:aW (kk:Int)with
       |false=>
        have HN2:Hid (∀s,s<t+1→iE c (n+1) s=false):=HN (by unfold iE;rw[hop,hlb];rfl);have hq:((kk:Int)==14)=false∧((kk:Int)==15)=false:=by unfold aW at hlb;simpa only[Bool.or_eq_false_iff]using hlb
        obtain⟨k14,k15⟩:=hq
        clear HN hop h6 hlb;go_wp2_with fail
        go_roundw
        case rel=>exact ⟨t+1,by omega,by go_num,HN2.out,by first|rfl|trivial⟩
        case measure=>simp [intOf];omega
       |true=>
        have hsz2:=(fC hlb).1;have hby2:=S.byte (pos c t+1) (by omega)
        obtain⟨X,hX⟩:∃X:Nat,c (pos c t+1)=(X:Int):=⟨(c (pos c t+1)).toNat,by omega⟩
        have hck2:=(C.below B1).cell (pos c t+1) (by omega);rw[hX]at hck2;have hbad:iE c (n+1) t= !started c (n+1) X:=by unfold iE;rw[hop,hlb,hX];rfl
        have hi5:(pos c t:Int)+1<(L:Int):=(by omega);have hi6:(X:Int)≤255:=(by omega);have hhas:=vK w1 g cp (n+1) (fun i=>(pos c i:Int)) X (by omega) HC.out;rw[vM]at hhas;have HH:Hid (Calls Tryz.prog 96 #[.slice (some ⟨g,0,none⟩) (n+1) cp,.int .i64 (X:Int)] w1 fun e w'=>e=.returned (.bool (started c (n+1) X))∧w'=w1):=hhas;have hq:((kk:Int)==14)=true∨((kk:Int)==14)=false∧((kk:Int)==15)=true:=by
         unfold aW at hlb
         cases hk:((kk:Int)==14)with
         |true=>exact Or.inl rfl
         |false=>rw [hk]at hlb;exact Or.inr ⟨rfl,hlb⟩
        clear hhas hop hsz2 hX hby2 hlb h6
        cases hst:started c (n+1) X with
        |true=>
         rw[hst]at hbad HH;have HN2:Hid (∀s,s<t+1→iE c (n+1) s=false):=HN hbad;clear HN hbad;rcases hq with k14|⟨k14,k15⟩;all_goals
          go_wp2_with(go_at_call 96;refine HH.out.mono ?_;rintro e w' ⟨rfl,rfl⟩)
          refine⟨?_,?measure⟩
          (repeat apply Exists.intro)
          refine⟨?rel,rfl⟩
          case rel=>exact ⟨t+1,by omega,by go_num,HN2.out,by first|rfl|trivial⟩
          case measure=>simp [intOf];omega
        |false=>
         rw[hst]at hbad HH;have HBD:Hid (iE c (n+1) t=true):=hbad;clear HN hbad;rcases hq with k14|⟨k14,k15⟩;all_goals
          go_wp2_with(go_at_call 96;refine HH.out.mono ?_;rintro e w' ⟨rfl,rfl⟩)
          go_ret;unfold iF
          exact⟨pos c t,true,Or.inr ⟨by omega,n+1,S,Or.inr ⟨hN,Or.inr ⟨HW.out,Or.inr ⟨rfl,t,hlt,rfl,HBD.out,HG.out⟩⟩⟩⟩,rfl,B1⟩
      ·have e:t=n+1:=(by omega);subst e;have HG:Hid (∀s,s<n+1→iE c (n+1) s=false):=hgood;clear hgood;go_wp2_with fail
       go_ret;unfold iF
       refine⟨0,false,?_,rfl,B1⟩
       exact Or.inr ⟨by omega,n+1,S,Or.inr ⟨hN,Or.inr ⟨HW.out,Or.inl ⟨rfl,rfl,HG.out⟩⟩⟩⟩
theorem SP.snd {c:Nat→Int}{L N z:Nat}(S:SP c L N z){m:Nat}(hm:m<N):cB c L z (pos c m)=true:=by
 unfold cB;have h1:=S.op m hm;have h2:=S.fits m hm;have h3:=S.cell m hm
 cases hb:dB (c (pos c m))with
 |false=>simp;exact⟨h1,h2⟩
 |true=>simp;exact⟨⟨h1,h2⟩,h3 hb⟩
theorem SP.same {c:Nat→Int}{L N M z:Nat}(S:SP c L N z)(hN:pos c N=L)(S':SP c L M z)(h:pos c M=L∨pos c M<L∧cB c L z (pos c M)=false):M=N:=by
 rcases Nat.lt_trichotomy M N with hlt|he|hgt
 ·have h1:=S.lt hlt;rcases h with h|⟨_,h⟩
  ·omega
  ·rw[S.snd hlt]at h;cases h
 ·exact he
 ·have:=S'.lt hgt;omega
theorem SP.stop {c:Nat→Int}{L N M z:Nat}(S:SP c L N z)(hN:pos c N<L∧cB c L z (pos c N)=false)(S':SP c L M z)(h:pos c M=L∨pos c M<L∧cB c L z (pos c M)=false):M=N:=by
 rcases Nat.lt_trichotomy M N with hlt|he|hgt
 ·have h1:=S.lt hlt;rcases h with h|⟨_,h⟩
  ·omega
  ·rw[S.snd hlt]at h;cases h
 ·exact he
 ·rw[S'.snd hgt]at hN;cases hN.2
theorem SP.more {c:Nat→Int}{L N z y:Nat}(S:SP c L N z)(h:z≤y)(hy:y≤20):SP c L N y:=
 ⟨S.most,hy,S.byte,fun m hm=>by have:=S.op m hm;omega,S.fits,S.cell⟩
theorem WT.same {c:Nat→Int}{N r s:Nat}{b d:Bool}(h:WT c N r b)(k:WT c N s d):r=s∧b=d:=by
 rcases h with⟨rfl,rfl,h⟩|⟨rfl,t,ht,rfl,hb,h⟩<;>rcases k with⟨rfl,rfl,k⟩|⟨rfl,u,hu,rfl,kb,k⟩
 ·exact⟨rfl,rfl⟩
 ·rw[h u hu]at kb;cases kb
 ·rw[k t ht]at hb;cases hb
 ·refine⟨?_,rfl⟩
  rcases Nat.lt_trichotomy t u with q|q|q
  ·rw[k t q]at hb;cases hb
  ·rw[q]
  ·rw[h u q]at kb;cases kb
theorem cZ.same {c:Nat→Int}{L most z r s:Nat}{b d:Bool}(h:cZ c L most z r b)(k:cZ c L most z s d):r=s∧b=d:=by
 rcases h with⟨h1,rfl,rfl⟩|⟨h1,N,S,h⟩<;>rcases k with⟨k1,rfl,rfl⟩|⟨k1,M,T,k⟩
 ·exact⟨rfl,rfl⟩
 ·omega
 ·omega
 ·rcases h with⟨p1,p2,rfl,rfl⟩|⟨hN,h⟩<;>rcases k with⟨q1,q2,rfl,rfl⟩|⟨hM,k⟩
  ·rw[S.stop ⟨p1,p2⟩ T (Or.inr ⟨q1,q2⟩)];exact⟨rfl,rfl⟩
  ·have:=S.stop ⟨p1,p2⟩ T (Or.inl hM);subst this;omega
  ·have:=S.same hN T (Or.inr ⟨q1,q2⟩);subst this;omega
  ·have:=S.same hN T (Or.inl hM)
   subst this;rcases h with⟨h,rfl,rfl⟩|⟨h,h'⟩<;>rcases k with⟨k,rfl,rfl⟩|⟨k,k'⟩
   ·exact⟨rfl,rfl⟩
   ·rw[h]at k;cases k
   ·rw[h]at k;cases k
   ·exact h'.same k'
theorem iY (w:World)(v:Value)(L most:Nat)(c:Nat→Int)(probes:Bool)(hm:most≤240)(hby:∀i,i<L→0≤c i∧c i≤255)(C:b9 w v L c):
  Calls Tryz.prog 58 #[v,.int .i64 (most:Int),.bool probes] w (iF c L most probes w):=by
 cases C with
 |full cb co cap hv C=>subst hv;exact oV w cb co L cap most c probes hm hby C
 |bare p cap hv hL=>
  subst hv hL
  refine(vL w p cap most probes (by omega)).mono ?_
  rintro e w' ⟨rfl,rfl⟩
  exact⟨0,true,Or.inr ⟨by omega,0,⟨by omega,by unfold ym;split<;>omega,fun _ h=>by omega,fun _ h=>by omega,fun _ h=>by omega,fun _ h=>by omega⟩,Or.inr ⟨rfl,Or.inl ⟨rfl,rfl,rfl⟩⟩⟩,rfl,Below.refl _ _⟩
theorem l5 (w:World)(cb co L cap N:Nat)(c:Nat→Int)(S:SP c L N 20)(hN:pos c N=L)(C:Laid w cb co L cap c):
  Calls Tryz.prog 66 #[.slice (some ⟨cb,co,none⟩) L cap] w fun e w'=>e=.returned (.bool (bJ c N))∧Below w.heap.size w w':=by
 have hpos:=C.ny;have hN0:0<N:=by
  cases N with
  |zero=>have:pos c 0=0:=rfl
         omega
  |succ n=>omega
 have hN240:=S.count;go_in;go_wp2_with fail
 refine(js w cb co L cap c true S.most S.byte C).mono ?_
 rintro e w1 ⟨M,S',B1,⟨hlt,hsb,rfl⟩|⟨hM,v,hown,rfl⟩⟩
 ·have:=S.same hN S' (Or.inr ⟨hlt,hsb⟩)
  subst this;omega
 ·have:=S.same hN S' (Or.inl hM)
  subst this
  obtain⟨g,cp,rfl⟩:=aB hown hN0
  have HC:Hid (∀i,i<M→w1.cell? ⟨g,i,none⟩=some (.int .i64 (pos c i))):=fun i hi=>(qH (f:=fun i=>(pos c i:Int)) hown hi).2
  clear hown;go_wp2_with fail
  go_loopw [5] (fun i wr=>∃t:Nat,t≤M∧i=.int .i64 t∧bJ c t=false∧wr=w1) (fun i _=>M-(intOf i).toNat)
  case atStart=>exact ⟨0,by omega,rfl,rfl,rfl⟩
  case round=>
   obtain⟨t,ht,rfl,hno,hwr⟩:=hrel
   obtain rfl:=hwr.symm;by_cases hlt:t<M
   ·obtain⟨kk,A,_⟩:=S.at hlt
    have ht1:=HC.out t hlt;have hck:=(C.below B1).cell (pos c t) A.lt;rw[A.op]at hck;have h5:=A.lt;have hop:=A.op;have hi3:(t:Int)<(M:Int):=(by omega);have hi4:((pos c t:Nat):Int)<(L:Int):=(by omega);have hk:=A.k;clear A
    cases h20:((kk:Int)==20)with
    |false=>
     have HN:Hid (bJ c (t+1)=false):=by
      show bJ c (t+1)=false;rw[nA,hno,hop,h20];rfl
     clear hno hop;go_wp2_with fail
     go_roundw
     case rel=>exact ⟨t+1,by omega,by go_num,HN.out,by first|rfl|trivial⟩
     case measure=>simp [intOf];omega
    |true=>
     have HN:Hid (bJ c M=true):=qx c hlt (by rw[hop];simpa using h20);clear hno hop;go_wp2_with fail
     go_ret
     exact⟨by rw[HN.out];rfl,B1⟩
   ·have e:t=M:=(by omega);subst e;have HN:=hid hno;clear hno;go_wp2_with fail
    go_ret
    exact⟨by rw[HN.out];rfl,B1⟩
theorem below_drewN {B:Nat}{a w:World}(h:Below B a w)(n:Nat):Below B a (w.drewN n):=⟨h.os,h.tape,h.output,h.size,h.block⟩
theorem sI {w:World}{B e size n:Nat}{v:Value}{xs:List Value}(h:w.ownsRow B e size v n xs)(q:Nat):(w.drewN q).ownsRow B e size v n xs:=h
theorem dN {w:World}{B D e size n:Nat}{v:Value}{xs:List Value}(h:w.ownsRow B e size v n xs)(hle:D≤B):w.ownsRow D e size v n xs:=
 ⟨h.1,h.2.imp id fun⟨g,cap,cur,hv,hg,r⟩=>⟨g,cap,cur,hv,Nat.le_trans hle hg,r⟩⟩
def aM (c:Nat→Int)(t k:Nat):Bool:=dI c t||(List.range k).any fun k=>aW (c (pos c k))&&c (pos c k+1)==((pos c t:Nat):Int)
theorem gh (c:Nat→Int)(t k:Nat):aM c t (k+1)=(aM c t k||(aW (c (pos c k))&&c (pos c k+1)==((pos c t:Nat):Int))):=by
 unfold aM;rw[List.range_succ,List.any_append];simp[Bool.or_assoc]
def kV (c:Nat→Int)(N m:Nat):List Value:=((List.range m).filter fun t=>aM c t N).map fun t=>.int .i64 (pos c t)
def bq (c:Nat→Int)(N m:Nat):Nat:=((List.range m).filter fun t=>aM c t N).length
theorem qf (c:Nat→Int)(N m:Nat):bq c N m≤m:=by
 unfold bq
 have:=List.length_filter_le (fun t=>aM c t N) (List.range m)
 simpa using this
theorem l7 {c:Nat→Int}{N t:Nat}(h:aM c t N=false):kV c N (t+1)=kV c N t∧bq c N (t+1)=bq c N t:=by
 unfold kV bq;rw[List.range_succ,List.filter_append];simp[h]
theorem jS {c:Nat→Int}{N t:Nat}(h:aM c t N=true):kV c N (t+1)=kV c N t++[.int .i64 (pos c t)]∧bq c N (t+1)=bq c N t+1:=by
 unfold kV bq;rw[List.range_succ,List.filter_append];simp[h]
theorem l8 (w:World)(cb co L cap N:Nat)(c:Nat→Int)(S:SP c L N 20)(hN:pos c N=L)(C:Laid w cb co L cap c):
  Calls Tryz.prog 59 #[.slice (some ⟨cb,co,none⟩) L cap] w fun e w'=>∃v,w'.ownsRow w.heap.size 3 1 v (bq c N N) (kV c N N)∧e=.returned v∧Below w.heap.size w w':=by
 obtain⟨i,hi,hz0,hz1,hz2⟩:=info_parts Tryz.gw
 have hpos:=C.ny;have hN0:0<N:=by
  cases N with
  |zero=>have:pos c 0=0:=rfl
         omega
  |succ n=>omega
 have hN240:=S.count;have hLm:=S.most;go_in;go_wp2_with fail
 refine(js w cb co L cap c true S.most S.byte C).mono ?_
 rintro e w1 ⟨M,S',B1,⟨hlt,hsb,rfl⟩|⟨hM,v,hown,rfl⟩⟩
 ·have:=S.same hN S' (Or.inr ⟨hlt,hsb⟩)
  subst this;omega
 ·have:=S.same hN S' (Or.inl hM)
  subst this;clear S' hM
  obtain⟨g,cp,rfl⟩:=aB hown hN0
  have hgw:=(hown.lt g rfl).2;have hw1:=B1.size;have HC1:Hid (∀i,i<M→w1.cell? ⟨g,i,none⟩=some (.int .i64 (pos c i))):=fun i hi=>(qH (f:=fun i=>(pos c i:Int)) hown hi).2
  clear hown;go_wp2_with fail
  go_loopw [5,6] (fun o i wr=>∃t:Nat,t≤M∧i=.int .i64 t∧wr.ownsRow w1.heap.size 3 1 o (bq c M t) (kV c M t)∧(∀i,i<M→wr.cell? ⟨g,i,none⟩=some (.int .i64 (pos c i)))∧Below w.heap.size w wr∧w1.heap.size≤wr.heap.size) (fun _ i _=>M-(intOf i).toNat)
  case atStart=>exact ⟨0,by omega,rfl,World.ownsRow_nil _ _ _ _,HC1.out,B1,Nat.le_refl _⟩
  case round=>
   clear HC1
   obtain⟨t,ht,rfl,hown,hcell,hB,hsz1⟩:=hrel
   have HO:=hid hown;have HC:=hid hcell;clear hcell;have hsz:=hB.size;by_cases hlt:t<M
   ·have hi1:(t:Int)<(M:Int):=(by omega);clear hown;by_cases h0:t=0
    ·have d0:((t:Int)==0)=true:=by simp;omega
     have d1:¬(0:Int)<(t:Int):=(by omega);have d1':decide ((0:Int)<(t:Int))=false:=by simp;omega
     have HB0:Hid (aM c t 0=true):=by
      show aM c t 0=true;unfold aM dI;rw[if_pos h0];rfl
     clear h0;go_wp2_with fail
     go_loopw [7,9] (fun b i wx=>∃k nd:Nat,k≤M∧i=.int .i64 k∧b=.bool (aM c t k)∧wx=wr.drewN nd) (fun _ i _=>M-(intOf i).toNat)
     case atStart=>exact ⟨0,0,by omega,rfl,by first|exact congrArg Value.bool HB0.out.symm|rw[HB0.out],rfl⟩
     case round=>
      obtain⟨k,nd,hk,rfl,rfl,rfl⟩:=hrel
      by_cases hkl:k<M
      ·obtain⟨kk,A,_⟩:=S.at hkl
       have ht2:=(HC.out k hkl);have ht3:=(HC.out t hlt);have hck:=(C.below hB).cell (pos c k) A.lt;rw[A.op]at hck;have h5:=A.lt;have h6:=A.fits;have hop:=A.op;have hi3:(k:Int)<(M:Int):=(by omega);have hi4:((pos c k:Nat):Int)<(L:Int):=(by omega);have hi7:(t:Int)<(M:Int):=(by omega);clear A
       cases hbk:aM c t k with
       |true=>
        have HN:Hid (aM c t (k+1)=true):=by
         show aM c t (k+1)=true;rw[gh,hbk];rfl
        clear hop h6;go_wp2_with fail
        go_quiet(fail)
        go_wp2_with fail
        go_roundw
        case rel=>exact ⟨k+1,nd+nq,by omega,by go_num,by rw[HN.out],rfl⟩
        case measure=>simp [intOf];omega
       |false=>
        cases hlb:aW (kk:Int)with
        |false=>
         have HN:Hid (aM c t (k+1)=false):=by
          show aM c t (k+1)=false;rw[gh,hbk,hop,hlb];rfl
         have hq:((kk:Int)==14)=false∧((kk:Int)==15)=false:=by unfold aW at hlb;simpa only[Bool.or_eq_false_iff]using hlb
         obtain⟨k14,k15⟩:=hq
         clear hop h6 hlb;go_wp2_with fail
         go_quiet(fail)
         go_wp2_with fail
         go_roundw
         case rel=>exact ⟨k+1,nd+nq,by omega,by go_num,by rw[HN.out],rfl⟩
         case measure=>simp [intOf];omega
        |true=>
         have hsz2:=(fC hlb).1;have hby2:=S.byte (pos c k+1) (by omega)
         obtain⟨X,hX⟩:∃X:Nat,c (pos c k+1)=(X:Int):=⟨(c (pos c k+1)).toNat,by omega⟩
         have hck2:=(C.below hB).cell (pos c k+1) (by omega);rw[hX]at hck2;have hi5:(pos c k:Int)+1<(L:Int):=(by omega);have hi6:(X:Int)≤255:=(by omega);have HN:Hid (aM c t (k+1)=((X:Int)==((pos c t:Nat):Int))):=by
          show aM c t (k+1)=_;rw[gh,hbk,hop,hlb,hX];simp
         have hq:((kk:Int)==14)=true∨((kk:Int)==14)=false∧((kk:Int)==15)=true:=by
          unfold aW at hlb
          cases hk:((kk:Int)==14)with
          |true=>exact Or.inl rfl
          |false=>rw [hk]at hlb;exact Or.inr ⟨rfl,hlb⟩
         clear hop hsz2 hX hby2 hlb h6;rcases hq with k14|⟨k14,k15⟩;all_goals
          go_wp2_with fail
          go_quiet(fail)
          go_wp2_with fail
          go_roundw
          case rel=>exact ⟨k+1,nd+nq,by omega,by go_num,by rw[HN.out],rfl⟩
          case measure=>simp [intOf];omega
      ·have e:k=M:=(by omega);subst e;have ht3:=(HC.out t hlt);have hi7:(t:Int)<(k:Int):=by omega
       cases hbk:aM c t k with
       |false=>
        have HN:=hid (l7 hbk);go_wp2_with fail
        go_roundw
        case rel=>exact ⟨t+1,by omega,by go_num,by rw[HN.out.1,HN.out.2];exact HO.out,HC.out,below_drewN hB _,hsz1⟩
        case measure=>simp [intOf];omega
       |true=>
        have HN:=hid (jS hbk);have hcle:=qf c k t;go_wp2_with(at_builtin;refine wpList_append_own_at _ rfl (.tmp 87) (.tmp 92) 32 rfl w1.heap.size 3 i (.int .i64 0) 1 8 Tryz.underlying32 hi hz0 hz1 hz2 rfl (by decide) _ (bq c k t) _ rfl ((sI HO.out _).alloc _) ⟨_,0,none⟩ 1 1 [.int .i64 (pos c t)] rfl rfl (cell_one_new _ _ _) ?c2 (by unfold maxLen;omega) (by omega) (by simp;omega) ?_)
        case c2=>intro u hu;simp at hu;subst hu;rfl
        intro v' w2 hown' hgrow _ hat;have hB2:=((below_drewN hB nd).alloc (by simpa using hsz) (.cells #[.int .i64 (pos c t)] 3)).grown hgrow (by simp;omega) (fun j hj=>by have:=(HO.out.lt j hj).1;omega);have HO1:Hid (w2.ownsRow w1.heap.size 3 1 v' (bq c k (t+1)) (kV c k (t+1))):=by
         show w2.ownsRow w1.heap.size 3 1 v' (bq c k (t+1)) (kV c k (t+1));rw[HN.out.1,HN.out.2];exact hown'
        have HC1:Hid (∀i,i<k→w2.cell? ⟨g,i,none⟩=some (.int .i64 (pos c i))):=fun i hi=>by
         refine hgrow.cell (a:=⟨g,i,none⟩) ?_ (dA HO.out hgw);rw[World.cell?_alloc_past _ _ _ (by simpa using Nat.lt_of_lt_of_le hgw hsz1)];exact HC.out i hi
        have hs2:w1.heap.size≤w2.heap.size:=by have:=hgrow.size;simp at this;omega
        clear hown' hgrow hat;go_wp2_with fail
        go_roundw
        case rel=>exact ⟨t+1,by omega,by go_num,HO1.out,HC1.out,hB2,hs2⟩
        case measure=>simp [intOf];omega
    ·obtain⟨s,rfl⟩:∃s,t=s+1:=⟨t-1,by omega⟩
     have d0:(((s+1:Nat):Int)==0)=false:=by rw[beq_eq_false_iff_ne];omega
     have d1:(0:Int)<((s+1:Nat):Int):=(by omega);have hsl:=HC.out s (by omega);have hsp:=S.lt (m:=s) (by omega);have hsc:=(C.below hB).cell (pos c s) hsp;have hi8:(s:Int)<(M:Int):=(by omega);have hi9:((pos c s:Nat):Int)<(L:Int):=(by omega);have hb0:aM c (s+1) 0=(fZ (c (pos c s))||aW (c (pos c s))):=by
      unfold aM dI;rw[if_neg (by omega),Nat.add_sub_cancel];simp
     obtain⟨x,hx⟩:∃x,c (pos c s)=x:=⟨_,rfl⟩
     rw[hx]at hsc hb0;clear h0 hx;have hq:∃z,aM c (s+1) 0=z∧((x==0)=true∧z=true∨(x==0)=false∧((x==14)=true∧z=true∨(x==14)=false∧((x==15)=true∧z=true∨(x==15)=false∧((x==19)=true∧z=true∨(x==19)=false∧z=false)))):=by
      refine⟨_,rfl,?_⟩
      rw[hb0];unfold fZ aW
      cases x==0<;>cases x==14<;>cases x==15<;>cases x==19<;>simp
     obtain⟨z,hz,hq⟩:=hq
     have HB0:=hid hz;clear hb0 hz;rcases hq with⟨q0,rfl⟩|⟨q0,⟨q1,rfl⟩|⟨q1,⟨q2,rfl⟩|⟨q2,⟨q3,rfl⟩|⟨q3,rfl⟩⟩⟩⟩;all_goals
      go_wp2_with fail
      go_loopw [7,9] (fun b i wx=>∃k nd:Nat,k≤M∧i=.int .i64 k∧b=.bool (aM c (s+1) k)∧wx=wr.drewN nd) (fun _ i _=>M-(intOf i).toNat)
      case atStart=>exact ⟨0,0,by omega,rfl,by first|exact congrArg Value.bool HB0.out.symm|rw[HB0.out],rfl⟩
      case round=>
       obtain⟨k,nd,hk,rfl,rfl,rfl⟩:=hrel
       by_cases hkl:k<M
       ·obtain⟨kk,A,_⟩:=S.at hkl
        have ht2:=(HC.out k hkl);have ht3:=(HC.out (s+1) hlt);have hck:=(C.below hB).cell (pos c k) A.lt;rw[A.op]at hck;have h5:=A.lt;have h6:=A.fits;have hop:=A.op;have hi3:(k:Int)<(M:Int):=(by omega);have hi4:((pos c k:Nat):Int)<(L:Int):=(by omega);have hi7:((s+1):Int)<(M:Int):=(by omega);clear A
        cases hbk:aM c (s+1) k with
        |true=>
         have HN:Hid (aM c (s+1) (k+1)=true):=by
          show aM c (s+1) (k+1)=true;rw[gh,hbk];rfl
         clear hop h6;go_wp2_with fail
         go_quiet(fail)
         go_wp2_with fail
         go_roundw
         case rel=>exact ⟨k+1,nd+nq,by omega,by go_num,by rw[HN.out],rfl⟩
         case measure=>simp [intOf];omega
        |false=>
         cases hlb:aW (kk:Int)with
         |false=>
          have HN:Hid (aM c (s+1) (k+1)=false):=by
           show aM c (s+1) (k+1)=false;rw[gh,hbk,hop,hlb];rfl
          have hq:((kk:Int)==14)=false∧((kk:Int)==15)=false:=by unfold aW at hlb;simpa only[Bool.or_eq_false_iff]using hlb
          obtain⟨k14,k15⟩:=hq
          clear hop h6 hlb;go_wp2_with fail
          go_quiet(fail)
          go_wp2_with fail
          go_roundw
          case rel=>exact ⟨k+1,nd+nq,by omega,by go_num,by rw[HN.out],rfl⟩
          case measure=>simp [intOf];omega
         |true=>
          have hsz2:=(fC hlb).1;have hby2:=S.byte (pos c k+1) (by omega)
          obtain⟨X,hX⟩:∃X:Nat,c (pos c k+1)=(X:Int):=⟨(c (pos c k+1)).toNat,by omega⟩
          have hck2:=(C.below hB).cell (pos c k+1) (by omega);rw[hX]at hck2;have hi5:(pos c k:Int)+1<(L:Int):=(by omega);have hi6:(X:Int)≤255:=(by omega);have HN:Hid (aM c (s+1) (k+1)=((X:Int)==((pos c (s+1):Nat):Int))):=by
           show aM c (s+1) (k+1)=_;rw[gh,hbk,hop,hlb,hX];simp
          have hq:((kk:Int)==14)=true∨((kk:Int)==14)=false∧((kk:Int)==15)=true:=by
           unfold aW at hlb
           cases hk:((kk:Int)==14)with
           |true=>exact Or.inl rfl
           |false=>rw [hk]at hlb;exact Or.inr ⟨rfl,hlb⟩
          clear hop hsz2 hX hby2 hlb h6;rcases hq with k14|⟨k14,k15⟩;all_goals
           go_wp2_with fail
           go_quiet(fail)
           go_wp2_with fail
           go_roundw
           case rel=>exact ⟨k+1,nd+nq,by omega,by go_num,by rw[HN.out],rfl⟩
           case measure=>simp [intOf];omega
       ·have e:k=M:=(by omega);subst e;have ht3:=(HC.out (s+1) hlt);have hi7:((s+1):Int)<(k:Int):=by omega
        cases hbk:aM c (s+1) k with
        |false=>
         have HN:=hid (l7 hbk);go_wp2_with fail
         go_roundw
         case rel=>exact ⟨(s+1)+1,by omega,by go_num,by rw[HN.out.1,HN.out.2];exact HO.out,HC.out,below_drewN hB _,hsz1⟩
         case measure=>simp [intOf];omega
        |true=>
         have HN:=hid (jS hbk);have hcle:=qf c k (s+1);go_wp2_with(at_builtin;refine wpList_append_own_at _ rfl (.tmp 87) (.tmp 92) 32 rfl w1.heap.size 3 i (.int .i64 0) 1 8 Tryz.underlying32 hi hz0 hz1 hz2 rfl (by decide) _ (bq c k (s+1)) _ rfl ((sI HO.out _).alloc _) ⟨_,0,none⟩ 1 1 [.int .i64 (pos c (s+1))] rfl rfl (cell_one_new _ _ _) ?c2 (by unfold maxLen;omega) (by omega) (by simp;omega) ?_)
         case c2=>intro u hu;simp at hu;subst hu;rfl
         intro v' w2 hown' hgrow _ hat;have hB2:=((below_drewN hB nd).alloc (by simpa using hsz) (.cells #[.int .i64 (pos c (s+1))] 3)).grown hgrow (by simp;omega) (fun j hj=>by have:=(HO.out.lt j hj).1;omega);have HO1:Hid (w2.ownsRow w1.heap.size 3 1 v' (bq c k ((s+1)+1)) (kV c k ((s+1)+1))):=by
          show w2.ownsRow w1.heap.size 3 1 v' (bq c k ((s+1)+1)) (kV c k ((s+1)+1));rw[HN.out.1,HN.out.2];exact hown'
         have HC1:Hid (∀i,i<k→w2.cell? ⟨g,i,none⟩=some (.int .i64 (pos c i))):=fun i hi=>by
          refine hgrow.cell (a:=⟨g,i,none⟩) ?_ (dA HO.out hgw);rw[World.cell?_alloc_past _ _ _ (by simpa using Nat.lt_of_lt_of_le hgw hsz1)];exact HC.out i hi
         have hs2:w1.heap.size≤w2.heap.size:=by have:=hgrow.size;simp at this;omega
         clear hown' hgrow hat;go_wp2_with fail
         go_roundw
         case rel=>exact ⟨(s+1)+1,by omega,by go_num,HO1.out,HC1.out,hB2,hs2⟩
         case measure=>simp [intOf];omega
   ·have e:t=M:=(by omega);subst e;clear HO;go_wp2_with fail
    go_ret
    exact⟨_,dN hown hw1,rfl,hB⟩
theorem SP.mono {c:Nat→Int}{L N z:Nat}(S:SP c L N z){m:Nat}:∀d,m+d≤N→pos c m+d≤pos c (m+d):=by
 intro d;induction d with
 |zero=>intro _;exact Nat.le_refl _
 |succ d ih=>
  intro h;have h0:=ih (by omega);have h2:=S.op (m+d) (by omega);have h3:=S.z20;have h4:=(bS (c (pos c (m+d))).toNat (by omega)).1;have e:pos c (m+d+1)=pos c (m+d)+bp (c (pos c (m+d))).toNat:=rfl;rw[←Nat.add_assoc m d 1];omega
theorem SP.less {c:Nat→Int}{L N z:Nat}(S:SP c L N z){m k:Nat}(h:m<k)(hk:k≤N):pos c m<pos c k:=by
 have:=S.mono (m:=m) (k-m) (by omega)
 rw[show m+(k-m)=k by omega]at this;omega
theorem SP.inj {c:Nat→Int}{L N z:Nat}(S:SP c L N z){m k:Nat}(hm:m≤N)(hk:k≤N)(h:pos c m=pos c k):m=k:=by
 rcases Nat.lt_trichotomy m k with q|q|q
 ·have:=S.less q hk;omega
 ·exact q
 ·have:=S.less q hm;omega
theorem qg {c:Nat→Int}{L N z:Nat}(S:SP c L N z){m:Nat}(hm:m<N):aT c N (pos c m)=aM c m N:=by
 rw[Bool.eq_iff_iff];unfold aT aM;simp only[List.any_eq_true,List.mem_range,Bool.or_eq_true,Bool.and_eq_true,beq_iff_eq];constructor
 ·rintro⟨t,ht,⟨h1,h2⟩|⟨h1,h2⟩⟩
  ·have:=S.inj (by omega) (by omega) h2
   subst this;exact Or.inl h1
  ·exact Or.inr ⟨t,ht,h1,h2⟩
 ·rintro(h|⟨t,ht,h1,h2⟩)
  ·exact⟨m,hm,Or.inl ⟨h,rfl⟩⟩
  ·exact⟨t,ht,Or.inr ⟨h1,h2⟩⟩
theorem JF {c:Nat→Int}{L N z:Nat}(F:gq c L N z){i:Nat}(h:aT c N i=true):∃m,m<N∧pos c m=i:=by
 unfold aT at h;simp only[List.any_eq_true,List.mem_range,Bool.or_eq_true,Bool.and_eq_true,beq_iff_eq]at h
 obtain⟨t,ht,⟨_,h2⟩|⟨h1,h2⟩⟩:=h
 ·exact⟨t,ht,h2⟩
 ·obtain⟨s,hs,e⟩:=F.jump ht h1
  exact⟨s,hs,by omega⟩
theorem yq {c:Nat→Int}{L N z:Nat}(F:gq c L N z):∀m,m≤N→cK (aT c N) (pos c m)=bq c N m:=by
 intro m;induction m with
 |zero=>intro _;rfl
 |succ m ih=>
  intro h;have h0:=ih (by omega);have S:=F.sp
  obtain⟨kk,A,e⟩:=S.at (m:=m) (by omega)
  have hs:=(bS kk A.k).2.1;have hp:=A.pos;have hr:bq c N (m+1)=bq c N m+if aT c N (pos c m)then 1 else 0:=by
   rw[qg S (by omega)]
   cases hb:aM c m N with
   |false=>exact (l7 hb).2
   |true=>exact (jS hb).2
  have hc1:cK (aT c N) (pos c m+1)=bq c N (m+1):=by
   rw[hr,←h0];rfl
  by_cases h1:bp kk=1
  ·rw[e,h1];exact hc1
  ·have h2:bp kk=2:=(by omega);rw[e,h2,←hc1];show cK (aT c N) (pos c m+1)+(if aT c N (pos c m+1)then 1 else 0)=_
   cases hb:aT c N (pos c m+1)with
   |false=>rfl
   |true=>
    obtain⟨k,hk,ek⟩:=JF F hb
    exfalso;rcases Nat.lt_trichotomy k (m+1)with q|q|q
    ·rcases Nat.lt_or_ge k m with q2|q2
     ·have:=S.less q2 (by omega);omega
     ·have:k=m:=by omega
      subst this;omega
    ·subst q;omega
    ·have:=S.less q (by omega);omega
theorem GO {c:Nat→Int}{L N z:Nat}(F:gq c L N z):cK (aT c N) L=bq c N N:=by
 rw[←F.last];exact yq F N (Nat.le_refl _)
theorem yt (w:World)(v:Value)(L:Nat)(c:Nat→Int)(hby:∀i,i<L→0≤c i∧c i≤255)(C:b9 w v L c):
  Calls Tryz.prog 24 #[v] w fun e w'=>∃n b,lQ c L n b∧e=.returned (.tuple #[.int .i64 (n:Nat),.int .i64 (if b then 0 else 1)])∧Below w.heap.size w w':=by
 go_in;go_wp2_with fail
 refine(iY w v L 80 c false (by omega) hby C).mono ?_
 rintro e w1 ⟨r,b,hF,rfl,B1⟩
 cases b with
 |true=>
  have hge:decide ((0:Int)≤(r:Int))=true:=by simp
  have hge':(0:Int)≤(r:Int):=by omega
  go_wp2_with fail
  go_ret2
  exact⟨r,false,Or.inl ⟨rfl,hF⟩,rfl,B1⟩
 |false=>
  obtain⟨rfl,h1,N,F⟩:=hF.fine
  cases C.below B1 with
  |bare p cap hv hL=>have:=F.pos;omega
  |full cb co cap hv C2=>
   subst hv;go_wp2_with fail
   refine(l8 w1 cb co L cap N c (F.sp.more (by unfold ym;simp) (by omega)) F.last C2).mono ?_
   rintro e w2 ⟨v,hown,rfl,B2⟩
   obtain⟨p,cp,hv⟩:∃p cp,v=.slice p (bq c N N) cp:=by
    rcases hown.2 with⟨hv,hn⟩|⟨g,cap,cur,hv,_⟩
    ·exact⟨none,0,by rw[hv,hn]⟩
    ·exact⟨_,_,hv⟩
   rw[hv];go_wp2_with fail
   go_ret2
   exact⟨_,true,Or.inr ⟨rfl,h1,N,F,(GO F).symm⟩,rfl,B1.trans (B2.mono B1.size)⟩
theorem yu {c:Nat→Int}{L n m:Nat}{b d:Bool}(h:lQ c L n b)(k:lQ c L m d):n=m∧b=d:=by
 rcases h with⟨rfl,h⟩|⟨rfl,h1,N,F,rfl⟩<;>rcases k with⟨rfl,k⟩|⟨rfl,k1,M,G,rfl⟩
 ·exact⟨(h.same k).1,rfl⟩
 ·have:=h.same (Or.inr ⟨k1,M,G.sp,Or.inr ⟨G.last,Or.inr ⟨G.ow,Or.inl ⟨rfl,rfl,G.DO⟩⟩⟩⟩)
  cases this.2
 ·have:=k.same (Or.inr ⟨h1,N,F.sp,Or.inr ⟨F.last,Or.inr ⟨F.ow,Or.inl ⟨rfl,rfl,F.DO⟩⟩⟩⟩)
  cases this.2
 ·have:=F.sp.same F.last G.sp (Or.inl G.last)
  subst this
  exact⟨rfl,rfl⟩
end Go.Proofs.YtmpgjkhchfcjlaaGreatDoor
