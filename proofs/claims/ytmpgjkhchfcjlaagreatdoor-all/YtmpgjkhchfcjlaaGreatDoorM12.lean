import Derived.Test.YtmpgjkhchfcjlaaGreatDoorM11
namespace Go.Proofs.YtmpgjkhchfcjlaaGreatDoor
open Go.RowKit
set_option maxHeartbeats 40000000
set_option maxRecDepth 100000
structure Kq (M:Nat) (w:World) (vs:Value) (inp:ByteArray) (ρ:RR) (cb co L cap p kk:Nat) (k:Int):Prop where
 ms:cz M w (.slice (some ⟨cb,co,none⟩) L cap) vs inp ρ
 here:ρ.here=(p:Int)
 op:w.cell? ⟨cb,co+p,none⟩=some (.int .u8 (kk:Int))
 lt:p<L
 snd:bp kk=2→p+1<L∧w.cell? ⟨cb,co+(p+1),none⟩=some (.int .u8 k)
 one:bp kk≠2→k=0
 k0:0≤k
 k1:k≤255
 ne:cb≠M
 room:L≤cap
 JI:cap≤9223372036854775807
 most:L≤240
 KA:kk≤19
 len:ρ.stack.length≤32
 tQ:0≤ρ.steps
 LJ:ρ.steps≤500
theorem cz.top {M:Nat}{w:World}{vc:Value}{p:Option Addr}{n cap:Nat}{inp:ByteArray}{ρ:RR}(h:cz M w vc (.slice p n cap) inp ρ):n=ρ.stack.length∧Roomy p n cap∧∀i,i<n→∃g,p=some ⟨g,0,none⟩∧g≠M∧w.cell? ⟨g,i,none⟩=some (.int .i64 (ρ.stack.getD i 0)):=by
 obtain⟨p',cap',hv,hrm,hc⟩:=h.row
 simp only[Value.slice.injEq]at hv
 obtain⟨rfl,rfl,rfl⟩:=hv
 refine⟨rfl,hrm,fun i hi=> ?_⟩
 obtain⟨g,h1,h2,h3⟩:=hc i _ (List.getElem?_eq_getElem hi)
 refine⟨g,h1,h2,?_⟩
 rw[h3,List.getD_eq_getElem?_getD,List.getElem?_eq_getElem hi];rfl
theorem Kept.mU {B M:Nat}{w w':World}(h:di M w w'):Kept B M w w':=⟨h.os,h.tape,h.output,Nat.le_of_eq h.size.symm,fun k _ hk=>h.block k hk⟩
theorem Kept.from {B M:Nat}{w w0 wx w':World}(k:Kept B M wx w')(h:Kept B M w w0)(h1:wx.heap=w0.heap)(h2:wx.os=w0.os)(h3:wx.tape=w0.tape)(h4:wx.output=w0.output):Kept B M w w':=
 ⟨(k.os.trans h2).trans h.os,(k.tape.trans h3).trans h.tape,(k.output.trans h4).trans h.output,by have:=k.size;rw[h1]at this;exact Nat.le_trans h.size this,fun j a b=>by rw[k.block j a b,h1];exact h.block j a b⟩
theorem Kept.sized {B B' M:Nat}{w w':World}(h:Kept B M w w')(e:B=B'):Kept B' M w w':=e▸h
theorem cz.slice {M:Nat}{w:World}{vc vs:Value}{inp:ByteArray}{ρ:RR}(h:cz M w vc vs inp ρ):∃p n cap,vs=.slice p n cap:=by
 obtain⟨p,cap,hv,_⟩:=h.row
 exact⟨p,_,cap,hv⟩
structure LL (M:Nat) (w:World) (inp:ByteArray) (pp:Option Addr) (n cp:Nat) (ρ:RR) (cb co L cap p kk:Nat) (k:Int):Prop where
 c0:w.cell? ⟨M,0,none⟩=some (.slice (some ⟨cb,co,none⟩) L cap)
 c20:w.cell? ⟨M,20,none⟩=some (.int .i64 (p:Int))
 Hg:w.cell? ⟨M,90,none⟩=some (.int .i64 ρ.steps)
 GV:w.cell? ⟨M,89,none⟩=some (.string ρ.out)
 c3:w.cell? ⟨M,3,none⟩=some (.slice pp n cp)
 f90:w.frozen? ⟨M,90,none⟩=false
 f3:w.frozen? ⟨M,3,none⟩=false
 hi1:(p:Int)<(L:Int)
 hn:n=ρ.stack.length
 hrm:Roomy pp n cp
 pV:∀i,i<n→∃g,pp=some ⟨g,0,none⟩∧g≠M∧w.cell? ⟨g,i,none⟩=some (.int .i64 (ρ.stack.getD i 0))
 xY:Ky (kk:Int)=(bp kk:Nat)
 htr:GN (kk:Int)=(aI kk:Nat)
 t2:aI kk≤2
 l2:eO kk≤2
 ly:Hid (∀w,Calls Tryz.prog 153 #[.int .u8 (kk:Int)] w fun e w'=>e=.returned (.int .i64 (eO kk:Nat))∧w'=w)
 sz:Hid (∀w,Calls Tryz.prog 97 #[.int .u8 (kk:Int)] w fun e w'=>e=.returned (.int .i64 (bp kk:Nat))∧w'=w)
 hK:Hid (Kept w.heap.size M w (w.setCell ⟨M,90,none⟩ (.int .i64 (ρ.steps+1))))
 hK2:Hid (∀v,Kept w.heap.size M w ((w.setCell ⟨M,90,none⟩ (.int .i64 (ρ.steps+1))).setCell ⟨M,3,none⟩ v))
 hR:Hid (cz M (w.setCell ⟨M,90,none⟩ (.int .i64 (ρ.steps+1))) (.slice (some ⟨cb,co,none⟩) L cap) (.slice pp n cp) inp {ρ with steps:=ρ.steps+1})
 HE:Hid (∀(wx:World) (kd ft:Int),wx.heap=(w.setCell ⟨M,90,none⟩ (.int .i64 (ρ.steps+1))).heap→Calls Tryz.prog 108 #[.pointer (some ⟨M,0,none⟩),.int .i64 kd,.int .i64 ft] wx fun e w'=>e=.returned (.tuple #[])∧cz M w' (.slice (some ⟨cb,co,none⟩) L cap) (.slice pp n cp) inp (mz {ρ with steps:=ρ.steps+1} kd ft)∧di M wx w')
 zk:bp kk=1∧k=0∨bp kk=2∧p+1<L∧(p:Int)+1<(L:Int)∧w.cell? ⟨cb,co+(p+1),none⟩=some (.int .u8 k)
theorem Kq.pre {M:Nat}{w:World}{vs:Value}{inp:ByteArray}{ρ:RR}{cb co L cap p kk:Nat}{k:Int}(A:Kq M w vs inp ρ cb co L cap p kk k):∃pp n cp,vs=.slice pp n cp∧LL M w inp pp n cp ρ cb co L cap p kk k:=by
 obtain⟨pp,n,cp,rfl⟩:=A.ms.slice
 obtain⟨hn,hrm,pV⟩:=A.ms.top
 have h:=A.ms;have h20:=A.KA
 obtain⟨_,⟨t1,t2⟩,⟨l1,l2⟩⟩:=eP kk (by omega)
 have xY:=yj (kk:=kk) (by omega);have htr:=JD (kk:=kk) (by omega);have hlr:=JE (kk:=kk) (by omega);rw[show aX (kk*3+1)=(aI kk:Nat)from by unfold aI;omega]at htr;rw[show aX (kk*3+2)=(eO kk:Nat)from by unfold eO;omega]at hlr;have hp:=A.lt
 exact⟨pp,n,cp,rfl,h.cell 0 (by omega),(h.cell 20 (by omega)).trans (by rw[←A.here];rfl),h.cell 90 (by omega),h.cell 89 (by omega),h.cell 3 (by omega),h.thaw 90,h.thaw 3,by omega,hn,hrm,pV,xY,htr,by unfold aI;omega,by unfold eO;omega,fun w=>by have:=Bw (kk:Int) w;rw[hlr]at this;exact this,fun w=>by have:=cF (kk:Int) w;rw[xY]at this;exact this,Kept.set _ _ _ _ _,fun _=>(Kept.set _ _ _ _ _).trans (Kept.set _ _ _ _ _),h.jL _,fun wx kd ft hx=>oy M wx _ _ inp _ kd ft ((h.jL _).same hx),by
  by_cases e:bp kk=2
  ·have:=A.snd e
   exact Or.inr ⟨e,this.1,by omega,this.2⟩
  ·exact Or.inl ⟨by have:=bS kk (by omega);omega,A.one e⟩⟩
theorem DY {pp:Option Addr}{n cp:Nat}(h:Roomy pp n cp):pp=none∧n=0∧cp=0∨∃g,pp=some ⟨g,0,none⟩:=by
 rcases h.2.2 with⟨rfl,rfl⟩|⟨g,rfl⟩
 ·have:=h.1
  exact Or.inl ⟨rfl,by omega,rfl⟩
 ·exact Or.inr ⟨g,rfl⟩
theorem IV {M n:Nat}{w:World}{pp:Option Addr}{s:List Int}(hn:n=s.length)(ht:∀i,i<n→∃g,pp=some ⟨g,0,none⟩∧g≠M∧w.cell? ⟨g,i,none⟩=some (.int .i64 (s.getD i 0)))(h:1≤n):∃q g:Nat,n=q+1∧pp=some ⟨g,0,none⟩∧g≠M∧w.cell? ⟨g,q,none⟩=some (.int .i64 (s.getD q 0))∧s.length-1=q∧(((q+1:Nat):Int))-1=(q:Int)∧(q:Int)+1-1=(q:Int)∧(q:Int)<(q:Int)+1:=by
 obtain⟨g,e,hg,c⟩:=ht (n-1) (by omega)
 exact⟨n-1,g,by omega,e,hg,c,by omega,by omega,by omega,by omega⟩
theorem IW {M n:Nat}{w:World}{pp:Option Addr}{s:List Int}(hn:n=s.length)(ht:∀i,i<n→∃g,pp=some ⟨g,0,none⟩∧g≠M∧w.cell? ⟨g,i,none⟩=some (.int .i64 (s.getD i 0)))(h:2≤n):∃q g:Nat,n=q+2∧pp=some ⟨g,0,none⟩∧g≠M∧w.cell? ⟨g,q,none⟩=some (.int .i64 (s.getD q 0))∧w.cell? ⟨g,q+1,none⟩=some (.int .i64 (s.getD (q+1) 0))∧s.length-2=q∧(((q+2:Nat):Int))-2=(q:Int)∧(q:Int)+2-2=(q:Int)∧(q:Int)<(q:Int)+2∧(q:Int)+2-1=(q:Int)+1∧(q:Int)+1<(q:Int)+2:=by
 obtain⟨q,rfl⟩:∃q,n=q+2:=⟨n-2,by omega⟩
 obtain⟨g,e,hg,c⟩:=ht q (by omega)
 obtain⟨g',e',_,c'⟩:=ht (q+1) (by omega)
 rw[e]at e';obtain rfl:g=g':=by simpa using e'
 exact⟨q,g,rfl,e,hg,c,c',by omega,by omega,by omega,by omega,by omega,by omega⟩
def KD (kk z:Nat)(a b c d:Bool):Prop:=bp kk=z∧((kk:Int)==11)=a∧((kk:Int)==18)=b∧((kk:Int)==14)=c∧((kk:Int)==15)=d
theorem M7 (x:Int):∀kk,kk≤19→kk≠0→kk≠19→aI kk=0∧(KD kk 1 false false false false∨KD kk 2 false false true false∨KD kk 2 false false false false)∨aI kk=1∧(KD kk 1 false true false false∨KD kk 1 false false false false∨KD kk 2 false false false false∨KD kk 2 false false false true∧(x==0)=true∨KD kk 2 false false false true∧(x==0)=false)∨aI kk=2∧(KD kk 1 true false false false∨KD kk 1 false false false false):=by
 intro kk h h0 h19;unfold KD;match kk,h with
 |0,_|1,_|2,_|3,_|4,_|5,_|6,_|7,_|8,_|9,_|10,_|11,_|12,_|13,_|14,_|15,_|16,_|17,_|18,_|19,_=>simp [bp,aI,aX,aj]at h0 h19⊢<;>omega
 |k+20,h=>omega
theorem DZ (M:Nat)(w:World)(vs:Value)(inp:ByteArray)(ρ:RR)(cb co L cap p kk:Nat)(k:Int)(A:Kq M w vs inp ρ cb co L cap p kk k)(ft:Int)(HU:ρ.stack.length<aI kk∧ft=2∨aI kk≤ρ.stack.length∧32<ρ.stack.length-aI kk+eO kk∧ft=3):
  Calls Tryz.prog 109 #[.pointer (some ⟨M,0,none⟩)] w (fI M w (.slice (some ⟨cb,co,none⟩) L cap) inp (mz {ρ with steps:=ρ.steps+1} 1 ft)):=by
 obtain⟨pp,n,cp,rfl,c0,c20,Hg,GV,c3,f90,f3,hi1,hn,hrm,pV,xY,htr,t2,l2,QLY,QSZ,hK,hK2,hR,HE,zk⟩:=A.pre
 obtain⟨h,hhere,hck,hlt,hsnd,hone,hk0,hk1,hne,hroom,hcap,h240,hkk,hlen,hs0,hs1⟩:=A
 rw[←hn]at hlen HU;have hcp:=hrm.1;have hcp2:=hrm.2.1;clear hhere hsnd hone;clear h pV;generalize aI kk=t at*;generalize eO kk=l at*
 obtain⟨hz,rfl⟩|⟨hz,hi2,hi3,hck2⟩:=zk
 all_goals
  rw[hz]at xY QSZ;clear hz
  obtain⟨hu,rfl⟩|⟨hu,ho,rfl⟩:=HU
  focus have hu':(n:Int)<(t:Int):=by omega
  rotate_left
  focus
   have hu':¬(n:Int)<(t:Int):=(by omega);have ho':(32:Int)<(n:Int)-(t:Int)+(l:Int):=by omega
 all_goals
  go_in;go_wp2_with fail
  repeat
   go_quiet(first|(go_at_call 153;refine Calls.quiet_of_same (QLY.out _))|(go_at_call 97;refine Calls.quiet_of_same (QSZ.out _)))
   go_wp2_with(first|(go_at_call 97;refine(cF _ _).mono ?_;rintro e w' ⟨rfl,rfl⟩;rw[xY])|(go_at_call 152;refine(mQ _ _).mono ?_;rintro e w' ⟨rfl,rfl⟩;rw[htr]))
  refine(HE.out _ _ _ ?hp).mono ?_
  case hp=>rfl
  rintro e w2 ⟨rfl,R2,O2⟩;go_wp2_with fail
  go_end0
  exact⟨rfl,⟨_,R2⟩,(Kept.mU O2).from hK.out rfl rfl rfl rfl⟩
theorem Hh (M:Nat)(w:World)(vs:Value)(inp:ByteArray)(ρ:RR)(cb co L cap p kk:Nat)(k:Int)(A:Kq M w vs inp ρ cb co L cap p kk k)(kd ft:Int)(HU:aI kk≤ρ.stack.length∧ρ.stack.length-aI kk+eO kk≤32)(H:kk=0∧kd=0∧ft=0∨kk=11∧ρ.stack.getD (ρ.stack.length-2+1) 0=0∧kd=1∧ft=1∨kk=18∧16≤ρ.out.size∧kd=1∧ft=4∨kk=19∧kd=1∧ft=16+k):
  Calls Tryz.prog 109 #[.pointer (some ⟨M,0,none⟩)] w (fI M w (.slice (some ⟨cb,co,none⟩) L cap) inp (mz {ρ with steps:=ρ.steps+1} kd ft)):=by
 obtain⟨pp,n,cp,rfl,c0,c20,Hg,GV,c3,f90,f3,hi1,hn,hrm,pV,xY,htr,t2,l2,QLY,QSZ,hK,hK2,hR,HE,zk⟩:=A.pre
 obtain⟨h,hhere,hck,hlt,hsnd,hone,hk0,hk1,hne,hroom,hcap,h240,hkk,hlen,hs0,hs1⟩:=A
 rw[←hn]at hlen HU;have hcp:=hrm.1;have hcp2:=hrm.2.1;clear hhere hsnd hone
 obtain⟨hu,ho⟩:=HU
 have hu':¬(n:Int)<(aI kk:Nat):=by omega
 have ho':¬(32:Int)<(n:Int)-(aI kk:Nat)+(eO kk:Int):=by omega
 generalize eO kk=l at*;clear h;rcases H with⟨hk,rfl,rfl⟩|⟨hk,hb,rfl,rfl⟩|⟨hk,hs,rfl,rfl⟩|⟨hk,rfl,rfl⟩;focus
  obtain⟨hz,hq⟩:bp kk=1∧aI kk=0:=by rw[hk];exact⟨rfl,rfl⟩
  have e0:((kk:Int)==0)=true:=by simp;omega
  rw[hq]at hu hu' ho' htr
  obtain⟨rfl,rfl,rfl⟩|⟨g,rfl⟩:=DY hrm
 rotate_left 2
 focus
  obtain⟨hz,hq⟩:bp kk=1∧aI kk=2:=by rw[hk];exact⟨rfl,rfl⟩
  have e0:((kk:Int)==0)=false:=by simp;omega
  have e11:((kk:Int)==11)=true:=by simp;omega
  rw[hq]at hu hu' ho' htr
  obtain⟨q,g,rfl,rfl,hgM,ca,cb',iq,ix1,ix1',ix0,ix2,ix3⟩:=IW hn pV hu
  rw[iq]at hb;have eb:(ρ.stack.getD (q+1) 0==0)=true:=by rw[hb];rfl
  clear hb;generalize ρ.stack.getD q 0=av at*;generalize ρ.stack.getD (q+1) 0=bv at*
 rotate_left
 focus
  obtain⟨hz,hq⟩:bp kk=1∧aI kk=1:=by rw[hk];exact⟨rfl,rfl⟩
  have e0:((kk:Int)==0)=false:=by simp;omega
  have e11:((kk:Int)==11)=false:=by simp;omega
  have e18:((kk:Int)==18)=true:=by simp;omega
  have ho1:(16:Int)≤(ρ.out.size:Int):=by omega
  have ho2:decide ((16:Int)≤(ρ.out.size:Int))=true:=by simp;omega
  rw[hq]at hu hu' ho' htr
  obtain⟨q,g,rfl,rfl,hgM,ca,iq,ix1,ix1',ix0⟩:=IV hn pV hu
  generalize ρ.stack.getD q 0=av at*
 rotate_left
 focus
  obtain⟨hz,hq⟩:bp kk=2∧aI kk=0:=by rw[hk];exact⟨rfl,rfl⟩
  have e0:((kk:Int)==0)=false:=by simp;omega
  have e11:((kk:Int)==11)=false:=by simp;omega
  have e18:((kk:Int)==18)=false:=by simp;omega
  have e19:((kk:Int)==19)=true:=by simp;omega
  rw[hq]at hu hu' ho' htr
  obtain⟨rfl,rfl,rfl⟩|⟨g,rfl⟩:=DY hrm
 all_goals
  rw[hz]at xY QSZ zk;clear pV hn hq hk hz
  obtain⟨hz,rfl⟩|⟨hz,hi2,hi3,hck2⟩:=zk<;>cases hz
  go_in;go_wp2_with fail
  repeat
   go_quiet(first|(go_at_call 153;refine Calls.quiet_of_same (QLY.out _))|(go_at_call 97;refine Calls.quiet_of_same (QSZ.out _)))
   go_wp2_with(first|(go_at_call 97;refine(cF _ _).mono ?_;rintro e w' ⟨rfl,rfl⟩;rw[xY])|(go_at_call 152;refine(mQ _ _).mono ?_;rintro e w' ⟨rfl,rfl⟩;rw[htr]))
  refine(HE.out _ _ _ ?hp).mono ?_
  case hp=>rfl
  rintro e w2 ⟨rfl,R2,O2⟩;go_wp2_with fail
  go_end0
  exact⟨rfl,⟨_,R2⟩,(Kept.mU O2).from hK.out rfl rfl rfl rfl⟩
end Go.Proofs.YtmpgjkhchfcjlaaGreatDoor
