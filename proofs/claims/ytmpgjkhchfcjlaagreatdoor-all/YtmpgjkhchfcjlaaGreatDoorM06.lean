import Derived.Test.YtmpgjkhchfcjlaaGreatDoorM05
namespace Go.Proofs.YtmpgjkhchfcjlaaGreatDoor
open Go.RowKit
set_option maxHeartbeats 1000000
inductive b9 (w:World) (v:Value) (L:Nat) (c:Nat→Int):Prop
 |full (cb co cap:Nat) (hv:v=.slice (some ⟨cb,co,none⟩) L cap) (C:Laid w cb co L cap c):b9 w v L c
 |bare (p:Option Addr) (cap:Nat) (hv:v=.slice p 0 cap) (hL:L=0):b9 w v L c
theorem b9.below {w wr:World}{v:Value}{L:Nat}{c:Nat→Int}(h:b9 w v L c)(hB:Below w.heap.size w wr):b9 wr v L c:=by
 cases h with
 |full cb co cap hv C=>exact .full cb co cap hv (C.below hB)
 |bare p cap hv hL=>exact .bare p cap hv hL
theorem pU (w:World)(p:Option Addr)(cap z:Nat):
  Calls Tryz.prog 144 #[.slice p 0 cap,.int .u8 (z:Int)] w fun e w'=>e=.returned (.int .i64 0)∧w'=w:=by
 have hdec:decide ((0:Int)<(0:Int))=false:=by simp
 go_in;go_wp2;go_loopw [5] (fun i wr=>i=.int .i64 0∧wr=w) (fun i _=>0)
 case atStart=>exact ⟨rfl,rfl⟩
 case round=>
  obtain⟨rfl,rfl⟩:=hrel
  go_wp2_with fail
  go_ret
  exact⟨rfl,rfl⟩
theorem rW (w:World)(p:Option Addr)(cap:Nat):
  Calls Tryz.prog 145 #[.slice p 0 cap] w fun e w'=>e=.returned (.bool false)∧w'=w:=by
 have hdec:decide ((0:Int)<(0:Int))=false:=by simp
 go_in;go_wp2;go_loopw [3,4] (fun b i wr=>i=.int .i64 0∧b=.bool false∧wr=w) (fun _ i _=>0)
 case atStart=>exact ⟨rfl,rfl,rfl⟩
 case round=>
  obtain⟨rfl,rfl,rfl⟩:=hrel
  go_wp2_with fail
  go_ret
  exact⟨rfl,rfl⟩
def cZ (c:Nat→Int)(L most z r:Nat)(b:Bool):Prop:=
 (most<L∧r=most∧b=true)∨
 (L≤most∧∃N,SP c L N z∧
  ((pos c N<L∧cB c L z (pos c N)=false∧r=pos c N∧b=true)∨
   (pos c N=L∧((dL c N=false∧r=L∧b=true)∨(dL c N=true∧WT c N r b)))))
theorem Br (w:World)(p:Option Addr)(cap z:Nat)(most:Int)(hm:0≤most):
  Calls Tryz.prog 98 #[.slice p 0 cap,.int .i64 most,.int .u8 (z:Int)] w fun e w'=>e=.returned (.tuple #[.int .i64 0,.bool true])∧w'=w:=by
 have h80:¬most<(0:Int):=by omega
 have h80':decide (most<(0:Int))=false:=by simp;omega
 go_in;go_wp2_with fail
 refine(pU w p cap z).mono ?_
 rintro e w1 ⟨rfl,rfl⟩;go_wp2_with fail
 refine(rW _ p cap).mono ?_
 rintro e w2 ⟨rfl,rfl⟩;go_wp2_with fail
 go_ret2
 exact⟨rfl,rfl⟩
theorem Bt (w:World)(cb co L cap most z:Nat)(c:Nat→Int)(hm:most≤240)(hz:z≤20)(hby:∀i,i<L→0≤c i∧c i≤255)(C:Laid w cb co L cap c)(hT:bK w):
  Calls Tryz.prog 98 #[.slice (some ⟨cb,co,none⟩) L cap,.int .i64 (most:Int),.int .u8 (z:Int)] w fun e w'=>∃r b,cZ c L most z r b∧e=.returned (.tuple #[.int .i64 (r:Nat),.bool b])∧Below w.heap.size w w':=by
 by_cases hL:most<L
 ·have h1:(most:Int)<(L:Int):=by omega
  have h2:decide ((most:Int)<(L:Int))=true:=by simpa using h1
  go_in;go_wp2_with fail
  go_ret2
  exact⟨most,true,Or.inl ⟨hL,rfl,rfl⟩,rfl,Below.refl _ _⟩
 ·have h1:¬(most:Int)<(L:Int):=by omega
  have h2:decide ((most:Int)<(L:Int))=false:=by simp;omega
  go_in;go_wp2_with fail
  refine(qw w cb co L cap z c (by omega) hz hby C hT).mono ?_
  rintro e w1 ⟨N,S,hend,rfl,B1⟩;by_cases hlt:pos c N<L
  ·have hi:(pos c N:Int)<(L:Int):=(by omega);have hsb:cB c L z (pos c N)=false:=by
    rcases hend with h|h
    ·omega
    ·exact h.2
   clear hend;go_wp2_with fail
   go_ret2
   exact⟨pos c N,true,Or.inr ⟨by omega,N,S,Or.inl ⟨hlt,hsb,rfl,rfl⟩⟩,rfl,B1⟩
  ·have hN:pos c N=L:=by
    rcases hend with h|h
    ·exact h
    ·omega
   clear hend;rw[hN];have hLL:¬(L:Int)<(L:Int):=(by omega);go_wp2_with fail
   refine(tU w1 cb co L cap N z c S hN (C.below B1) (hT.below B1)).mono ?_
   rintro e w2 ⟨rfl,B2⟩;have B12:=B1.trans (B2.mono B1.size)
   cases hw:dL c N with
   |false=>
    go_wp2_with fail
    go_ret2
    exact⟨L,true,Or.inr ⟨by omega,N,S,Or.inr ⟨hN,Or.inl ⟨hw,rfl,rfl⟩⟩⟩,rfl,B12⟩
   |true=>
    go_wp2_with fail
    refine(pT w2 cb co L cap N z c S hN (C.below B12) (hT.below B12)).mono ?_
    rintro e w3 ⟨r,b,hWT,rfl,B3⟩;go_wp2_with fail
    go_ret2
    exact⟨r,b,Or.inr ⟨by omega,N,S,Or.inr ⟨hN,Or.inr ⟨hw,hWT⟩⟩⟩,rfl,B12.trans (B3.mono B12.size)⟩
theorem qC (w:World)(v:Value)(L most z:Nat)(c:Nat→Int)(hm:most≤240)(hz:z≤20)(hby:∀i,i<L→0≤c i∧c i≤255)(C:b9 w v L c)(hT:bK w):
  Calls Tryz.prog 98 #[v,.int .i64 (most:Int),.int .u8 (z:Int)] w fun e w'=>∃r b,cZ c L most z r b∧e=.returned (.tuple #[.int .i64 (r:Nat),.bool b])∧Below w.heap.size w w':=by
 cases C with
 |full cb co cap hv C=>subst hv;exact Bt w cb co L cap most z c hm hz hby C hT
 |bare p cap hv hL=>
  subst hv hL
  refine(Br w p cap z most (by omega)).mono ?_
  rintro e w' ⟨rfl,rfl⟩
  refine⟨0,true,Or.inr ⟨by omega,0,⟨by omega,hz,fun _ h=>by omega,fun _ h=>by omega,fun _ h=>by omega,fun _ h=>by omega⟩,Or.inr ⟨rfl,Or.inl ⟨rfl,rfl,rfl⟩⟩⟩,rfl,Below.refl _ _⟩
structure gq (c:Nat→Int) (L N z:Nat):Prop where
 sp:SP c L N z
 last:pos c N=L
 ow:dL c N=true
 DO:∀m,m<N→iE c N m=false
theorem cZ.fine {c:Nat→Int}{L most z r:Nat}(h:cZ c L most z r false):r=0∧L≤most∧∃N,gq c L N z:=by
 rcases h with h|⟨hL,N,S,h|⟨hN,h|⟨hw,h⟩⟩⟩
 ·cases h.2.2
 ·cases h.2.2.2
 ·cases h.2.2
 ·rcases h with h|h
  ·exact⟨h.2.1,hL,N,S,hN,hw,h.2.2⟩
  ·cases h.1
theorem gq.one {c:Nat→Int}{L N z:Nat}(F:gq c L N z):0<N:=by
 cases N with
 |zero=>have:=F.ow;cases this
 |succ n=>omega
theorem gq.pos {c:Nat→Int}{L N z:Nat}(F:gq c L N z):0<L:=Nat.lt_of_le_of_lt (Nat.zero_le _) (F.sp.lt F.one)
theorem gq.jump {c:Nat→Int}{L N z:Nat}(F:gq c L N z){m:Nat}(hm:m<N)(h:aW (c (Go.Proofs.YtmpgjkhchfcjlaaGreatDoor.pos c m))=true):∃t,t<N∧(Go.Proofs.YtmpgjkhchfcjlaaGreatDoor.pos c t:Int)=c (Go.Proofs.YtmpgjkhchfcjlaaGreatDoor.pos c m+1):=by
 have hb:=F.DO m hm;unfold iE at hb;rw[h,Bool.true_and,Bool.not_eq_false']at hb
 obtain⟨t,ht,e⟩:=qB c hb
 refine⟨t,ht,?_⟩
 obtain⟨kk,A,_⟩:=F.sp.at hm
 rw[A.op]at h
 have:=(fC h).1
 have:=A.fits
 have:=F.sp.byte (Go.Proofs.YtmpgjkhchfcjlaaGreatDoor.pos c m+1) (by omega)
 omega
theorem gq.vp {c:Nat→Int}{L N:Nat}(F:gq c L N 19)(hL:L≤80):VP c L N where
 most:=hL
 one:=F.one
 last:=F.last
 op:=fun m hm=>F.sp.op m hm
 byte:=F.sp.byte
 cell:=F.sp.cell
 stop:=by
  have:=F.ow
  unfold dL at this;rw[if_neg (by have:=F.one;omega)]at this;exact this
 jump:=fun _ hm h=>F.jump hm h
theorem gq.good {c:Nat→Int}{L N z:Nat}(F:gq c L N z):Good c L (fun p=>∃m,m<N∧Go.Proofs.YtmpgjkhchfcjlaaGreatDoor.pos c m=p) where
 zero:=⟨0,F.one,rfl⟩
 most:=F.sp.most
 lt:=by
  rintro p ⟨m,hm,rfl⟩
  exact⟨F.sp.fits m hm,by have:=F.sp.op m hm;have:=F.sp.z20;omega⟩
 byte:=F.sp.byte
 cell:=by
  rintro p ⟨m,hm,rfl⟩ h;exact F.sp.cell m hm (by unfold dB;rcases h with h|h<;>rw [h]<;>rfl)
 next:=by
  rintro p ⟨m,hm,rfl⟩ h0 h14 h19;by_cases e:m=N-1
  ·have:=F.ow
   unfold dL at this;rw[if_neg (by omega),←e]at this;unfold fZ at this;simp[h0,h14,h19]at this
  ·exact⟨m+1,by omega,rfl⟩
 jump:=by
  rintro p ⟨m,hm,rfl⟩ h
  obtain⟨t,ht,e⟩:=F.jump hm (by unfold aW;rcases h with h|h<;>rw [h]<;>rfl)
  exact⟨t,ht,by omega⟩
def gH (c:Nat→Int)(L:Nat)(b:Bool):Prop:=
 (b=true∧L≤80∧∃N,gq c L N 19)∨
 (∃r,cZ c L 80 19 r true∧((b=true∧∃N,gq c L N 20∧bJ c N=true)∨(b=false∧((∃r,cZ c L 240 20 r true)∨∃N,gq c L N 20∧bJ c N=false))))
theorem yc (w:World)(v:Value)(L:Nat)(c:Nat→Int)(hby:∀i,i<L→0≤c i∧c i≤255)(C:b9 w v L c)(hT:bK w):
  Calls Tryz.prog 63 #[v] w fun e w'=>∃b,gH c L b∧e=.returned (.bool b)∧Below w.heap.size w w':=by
 go_in;go_wp2_with fail
 refine(qC w v L 80 19 c (by omega) (by omega) hby C hT).mono ?_
 rintro e w1 ⟨r,b,hF,rfl,B1⟩
 cases b with
 |false=>
  obtain⟨_,h1,h2⟩:=hF.fine
  go_wp2_with fail
  go_ret
  exact⟨true,Or.inl ⟨rfl,h1,h2⟩,rfl,B1⟩
 |true=>
  go_wp2_with fail
  refine(qC w1 v L 240 20 c (by omega) (by omega) hby (C.below B1) (hT.below B1)).mono ?_
  rintro e w2 ⟨r2,b2,hF2,rfl,B2⟩;have B12:=B1.trans (B2.mono B1.size)
  cases b2 with
  |true=>
   go_wp2_with fail
   go_ret
   exact⟨false,Or.inr ⟨r,hF,Or.inr ⟨rfl,Or.inl ⟨_,hF2⟩⟩⟩,rfl,B12⟩
  |false=>
   obtain⟨_,_,N,F⟩:=hF2.fine
   cases C.below B12 with
   |bare p cap hv hL=>have:=F.pos;omega
   |full cb co cap hv C2=>
    subst hv;go_wp2_with fail
    refine(nB w2 cb co L cap N 20 c F.sp F.last C2 (hT.below B12)).mono ?_
    rintro e w3 ⟨rfl,B3⟩;go_wp2_with fail
    go_ret
    refine⟨bJ c N,Or.inr ⟨r,hF,?_⟩,rfl,B12.trans (B3.mono B12.size)⟩
    cases hp:bJ c N
    ·exact Or.inr ⟨rfl,Or.inr ⟨N,F,hp⟩⟩
    ·exact Or.inl ⟨rfl,N,F,hp⟩
def dI (c:Nat→Int)(t:Nat):Bool:=if t=0 then true else fZ (c (pos c (t-1)))||aW (c (pos c (t-1)))
def aT (c:Nat→Int)(m i:Nat):Bool:=(List.range m).any fun t=>(dI c t&&pos c t==i)||(aW (c (pos c t))&&c (pos c t+1)==(i:Int))
theorem vF (c:Nat→Int)(m i:Nat):aT c (m+1) i=(aT c m i||((dI c m&&pos c m==i)||(aW (c (pos c m))&&c (pos c m+1)==(i:Int)))):=by
 unfold aT;rw[List.range_succ,List.any_append]
 simp
theorem iV (w:World)(cb co L cap N:Nat)(c:Nat→Int)(V:VP c L N)(C:Laid w cb co L cap c)(hT:bK w):
  Calls Tryz.prog 100 #[.slice (some ⟨cb,co,none⟩) L cap] w fun e w'=>e=.returned (.slice (some ⟨w.heap.size,0,none⟩) L L)∧w'.heap[w.heap.size]?=some (.cells (bl L (aT c N)).toArray 4 (0,0))∧Below w.heap.size w w':=by
 have hfs:=dD;have hmost:=V.most
 obtain⟨w1,hmk,hh1,hB1⟩:=made w 155 4 (.bool false) 1 L Tryz.underlying155 Tryz.qz rfl (by omega) (by omega)
 rw[tY]at hh1;have HH1:=hid hh1;clear hh1;go_in;go_wp2;clear hmk;go_loopw [4,5] (fun b i wr=>∃m:Nat,m≤N∧i=.int .i64 (pos c m)∧b=.bool (dI c m)∧wr.heap[w.heap.size]?=some (.cells (bl L (aT c m)).toArray 4 (0,0))∧Below w.heap.size w wr) (fun _ i _=>L-(intOf i).toNat)
 case atStart=>exact ⟨0,by omega,rfl,rfl,HH1.out,hB1⟩
 case round=>
  obtain⟨m,hm,rfl,rfl,hh,hB⟩:=hrel
  by_cases hlt:m<N
  ·obtain⟨kk,A,hsucc⟩:=V.at hlt
   have hck:=C.at hB A.lt;rw[A.op]at hck;have h1:=A.lt;have h2:=A.fits;have h3:=A.sz;have h4:=A.s1;have h5:=A.s2;have h6:=A.pos;have h7:=A.most;have hk:=A.k;have hop:=A.op;have HS:=hid hsucc;have HZ:=hid h3;have hi1:(pos c m:Int)<(L:Int):=(by omega);have HBH:Hid (dI c (m+1)=(fZ (kk:Int)||aW (kk:Int))):=by
    show dI c (m+1)=_;unfold dI;rw[if_neg (by omega),Nat.add_sub_cancel,hop]
   have hcb:=C.blk;have hlt2:w.heap.size<wr.heap.size:=(Array.getElem?_eq_some_iff.1 hh).1
   obtain⟨wa,hwa,hha,hBa⟩:∃wa,wa=(if dI c m then wr.setCell ⟨w.heap.size,pos c m,none⟩ (.bool true)else wr)∧wa.heap[w.heap.size]?=some (.cells (bl L (fun i=>aT c m i||(dI c m&&pos c m==i))).toArray 4 (0,0))∧Below w.heap.size w wa:=by
    refine⟨_,rfl,?_,?_⟩
    ·cases hb:dI c m
     ·simp only[Bool.false_and,Bool.or_false];exact hh
     ·simp only[if_true,Bool.true_and];refine gX hh _ _ (tX L _ _ _ _ (fun i _=> ?_));by_cases e:i=pos c m
      ·subst e;simp
      ·rw[if_neg e];have:(pos c m==i)=false:=by rw[beq_eq_false_iff_ne];exact fun h=>e h.symm
       simp[this]
    ·cases hb:dI c m
     ·exact hB
     ·exact hB.setCell (p:=⟨w.heap.size,pos c m,none⟩) (Nat.le_refl _) _
   have hszA:wa.heap.size=wr.heap.size:=by rw[hwa];split<;>simp
   have fa:∀p,wa.frozen? ⟨w.heap.size,p,none⟩=false:=fun p=>frozen_of_row wa w.heap.size p _ _ hha
   have ca:∀p,p<L→∃b,wa.cell? ⟨w.heap.size,p,none⟩=some (.bool b):=fun p hp=>by
    rw[cell_of_row wa w.heap.size _ _ _ _ hha,List.getElem?_toArray,iU L _ _ hp];exact⟨_,rfl⟩
   have c1:wr.cell? ⟨w.heap.size,pos c m,none⟩=some (.bool (aT c m (pos c m))):=by
    rw[cell_of_row wr w.heap.size _ _ _ _ hh,List.getElem?_toArray];exact iU L _ _ h1
   have f1:=frozen_of_row wr w.heap.size (pos c m) _ _ hh;have hcka:=C.at hBa h1;rw[hop]at hcka;have hTa:=hid (hT.below hBa)
   cases hlb:aW (kk:Int)with
   |false=>
    have HR:Hid (wa.heap[w.heap.size]?=some (.cells (bl L (aT c (m+1))).toArray 4 (0,0))):=by
     show wa.heap[w.heap.size]?=_;rw[hha]
     have:(fun i=>aT c m i||(dI c m&&pos c m==i))=aT c (m+1):=by
      funext i;rw[vF,hop,hlb];simp
     rw[this]
    cases hbh:dI c m with
    |false=>
     have hwr:wa=wr:=by rw[hwa,hbh];rfl
     subst hwr;clear hsucc h3 A hop hh hha ca fa hwa
     cases hen:fZ (kk:Int)
     all_goals
      rw[hen,hlb]at HBH;go_wp2_with(first|(go_at_call 113;refine(bV _ _).mono ?_;rintro e w' ⟨rfl,rfl⟩)|(go_at_call 147;refine(jO _ _).mono ?_;rintro e w' ⟨rfl,rfl⟩)|(go_at_call 112;refine(ak kk (by omega) _ hTa.out).mono ?_;rintro e w' ⟨rfl,cc2,rfl⟩))
      go_roundw
      case rel=>exact ⟨m+1,by omega,by rw[HS.out,HZ.out],by rw[HBH.out];rfl,by rw[Below.heap_alloc _ _ _ (by omega)];exact HR.out,hBa.alloc (by have:=hBa.size;omega) _⟩
      case measure=>simp [intOf];omega
    |true=>
     have hwr:wa=wr.setCell ⟨w.heap.size,pos c m,none⟩ (.bool true):=by rw[hwa,hbh];rfl
     subst hwr;clear hsucc h3 A hop hh hha ca fa hwa
     cases hen:fZ (kk:Int)
     all_goals
      rw[hen,hlb]at HBH;go_wp2_with(first|(go_at_call 113;refine(bV _ _).mono ?_;rintro e w' ⟨rfl,rfl⟩)|(go_at_call 147;refine(jO _ _).mono ?_;rintro e w' ⟨rfl,rfl⟩)|(go_at_call 112;refine(ak kk (by omega) _ hTa.out).mono ?_;rintro e w' ⟨rfl,cc2,rfl⟩))
      go_roundw
      case rel=>exact ⟨m+1,by omega,by rw[HS.out,HZ.out],by rw[HBH.out];rfl,by rw[Below.heap_alloc _ _ _ (by omega)];exact HR.out,hBa.alloc (by have:=hBa.size;omega) _⟩
      case measure=>simp [intOf];omega
   |true=>
    obtain⟨s,hs,hst⟩:=V.jump m hlt (by rw[hop];exact hlb)
    have hsz2:bp kk=2:=by
     unfold aW at hlb
     have:kk=14∨kk=15:=by simp at hlb;omega
     rcases this with e|e<;>rw [e]<;>rfl
    have hck2:=C.at hBa (p:=pos c m+1) (by omega);rw[←hst]at hck2;have hsL:=V.lt hs;have hi2:(pos c s:Int)<(L:Int):=(by omega);have hi3:(pos c m:Int)+1<(L:Int):=(by omega);have hi4:(pos c s:Int)≤255:=by omega
    obtain⟨bs,cs⟩:=ca (pos c s) hsL
    have fs:=fa (pos c s);have HR:Hid ((wa.setCell ⟨w.heap.size,pos c s,none⟩ (.bool true)).heap[w.heap.size]?=some (.cells (bl L (aT c (m+1))).toArray 4 (0,0))):=by
     refine gX hha _ _ (tX L _ _ _ _ (fun i _=> ?_));rw[vF,hop,hlb,←hst];by_cases e:i=pos c s
     ·subst e;simp
     ·rw[if_neg e]
      have:((pos c s:Int)==(i:Int))=false:=by rw[beq_eq_false_iff_ne];omega
      simp[this]
    have hBb:Below w.heap.size w (wa.setCell ⟨w.heap.size,pos c s,none⟩ (.bool true)):=hBa.setCell (p:=⟨w.heap.size,pos c s,none⟩) (Nat.le_refl _) _;have hckb:(wa.setCell ⟨w.heap.size,pos c s,none⟩ (.bool true)).cell? ⟨cb,co+pos c m,none⟩=some (.int .u8 (kk:Int)):=by
     have:=C.at hBb h1
     rw[hop]at this;exact this
    have hTb:=hid (hT.below hBb);have HST:=hid hst;clear hst
    cases hbh:dI c m with
    |false=>
     have hwr:wa=wr:=by rw[hwa,hbh];rfl
     subst hwr;clear hsucc h3 A hop hh hha ca fa hwa
     cases hen:fZ (kk:Int)
     all_goals
      rw[hen,hlb]at HBH;go_wp2_with(first|(go_at_call 113;refine(bV _ _).mono ?_;rintro e w' ⟨rfl,rfl⟩)|(go_at_call 147;refine(jO _ _).mono ?_;rintro e w' ⟨rfl,rfl⟩)|(go_at_call 112;refine(ak kk (by omega) _ hTb.out).mono ?_;rintro e w' ⟨rfl,cc2,rfl⟩))
      go_roundw
      case rel=>exact ⟨m+1,by omega,by rw[HS.out,HZ.out],by rw[HBH.out];rfl,by rw[Below.heap_alloc _ _ _ (by simp;omega)];exact HR.out,hBb.alloc (by simp;omega) _⟩
      case measure=>simp [intOf];omega
    |true=>
     have hwr:wa=wr.setCell ⟨w.heap.size,pos c m,none⟩ (.bool true):=by rw[hwa,hbh];rfl
     subst hwr;clear hsucc h3 A hop hh hha ca fa hwa
     cases hen:fZ (kk:Int)
     all_goals
      rw[hen,hlb]at HBH;go_wp2_with(first|(go_at_call 113;refine(bV _ _).mono ?_;rintro e w' ⟨rfl,rfl⟩)|(go_at_call 147;refine(jO _ _).mono ?_;rintro e w' ⟨rfl,rfl⟩)|(go_at_call 112;refine(ak kk (by omega) _ hTb.out).mono ?_;rintro e w' ⟨rfl,cc2,rfl⟩))
      go_roundw
      case rel=>exact ⟨m+1,by omega,by rw[HS.out,HZ.out],by rw[HBH.out];rfl,by rw[Below.heap_alloc _ _ _ (by simp;omega)];exact HR.out,hBb.alloc (by simp;omega) _⟩
      case measure=>simp [intOf];omega
  ·have e:m=N:=(by omega);subst e;rw[V.last];go_wp2;go_ret
   exact⟨rfl,hh,hB⟩
def cK (f:Nat→Bool):Nat→Nat
 |0=>0
 |k+1=>cK f k+if f k then 1 else 0
theorem gy (f:Nat→Bool):∀k,cK f k≤k
 |0=>Nat.le_refl _
 |k+1=>by have:=gy f k;unfold cK;split<;>omega
theorem qD (w:World)(G L:Nat)(f:Nat→Bool)(hh:w.heap[G]?=some (.cells (bl L f).toArray 4 (0,0)))(hL:L≤1000):
  Calls Tryz.prog 99 #[.slice (some ⟨G,0,none⟩) L L] w fun e w'=>e=.returned (.int .i64 (cK f L))∧w'=w:=by
 have hc:∀k,k<L→w.cell? ⟨G,k,none⟩=some (.bool (f k)):=fun k hk=>by
  rw[cell_of_row w G _ _ _ _ hh,List.getElem?_toArray];exact iU L _ _ hk
 clear hh;go_in;go_wp2;go_loop [3,8] (fun n i=>∃k:Nat,k≤L∧i=.int .i64 k∧n=.int .i64 (cK f k)) (fun _ i=>L-(intOf i).toNat)
 case atStart=>exact ⟨0,by omega,rfl,rfl⟩
 case round=>
  obtain⟨k,hk,rfl,rfl⟩:=hrel
  have hle:=gy f k;by_cases hlt:k<L
  ·have hck:=hc k hlt;have hi1:(k:Int)<(L:Int):=(by omega);have HC:Hid (cK f (k+1)=cK f k+if f k then 1 else 0):=rfl
   cases hf:f k
   all_goals
    rw[hf]at HC hck;go_wp2;go_round
    case rel=>exact ⟨k+1,by omega,by go_num,by rw[HC.out];simp⟩
    case measure=>simp [intOf];omega
  ·have e:k=L:=(by omega);subst e;go_wp2;go_ret
   exact⟨rfl,rfl⟩
def vG (f:Nat→Bool)(i:Nat):Int:=if f i then cK f i else -1
def il (L:Nat)(f:Nat→Int):List Value:=(List.range L).map fun i=>.int .i64 (f i)
theorem jF (L:Nat)(f:Nat→Int)(i:Nat)(hi:i<L):(il L f)[i]?=some (.int .i64 (f i)):=by simp[il,List.getElem?_range hi]
theorem tZ (L:Nat)(f:Nat→Int):(il L f).length=L:=by simp[il]
theorem qE (L:Nat)(f g:Nat→Int)(p:Nat)(b:Int)(hg:∀i,i<L→g i=if i=p then b else f i):(il L f).set p (.int .i64 b)=il L g:=by
 apply List.ext_getElem?;intro j;by_cases hj:j<L
 ·rw[List.getElem?_set,jF L g j hj,hg j hj];by_cases e:p=j
  ·subst e;rw[if_pos rfl,if_pos (by rw[tZ];exact hj),if_pos rfl]
  ·rw[if_neg e,jF L f j hj,if_neg (fun c=>e c.symm)]
 ·rw[List.getElem?_eq_none (by simp[tZ];omega),List.getElem?_eq_none (by rw[tZ];omega)]
theorem Af (L:Nat):List.replicate L (Value.int .i64 0)=il L (fun _=>0):=by
 apply List.ext_getElem?;intro j;by_cases hj:j<L
 ·rw[jF L _ j hj,List.getElem?_replicate,if_pos hj]
 ·rw[List.getElem?_eq_none (by simp;omega),List.getElem?_eq_none (by rw[tZ];omega)]
def cP (f:Nat→Bool)(k i:Nat):Int:=if i<k then vG f i else 0
theorem jP (w:World)(cb co L cap N:Nat)(c:Nat→Int)(V:VP c L N)(C:Laid w cb co L cap c)(hT:bK w):
  Calls Tryz.prog 106 #[.slice (some ⟨cb,co,none⟩) L cap] w fun e w'=>e=.returned (.slice (some ⟨w.heap.size,0,none⟩) L L)∧w'.heap[w.heap.size]?=some (.cells (il L (cP (aT c N) L)).toArray 3 (0,0))∧Below w.heap.size w w':=by
 have hmost:=V.most
 obtain⟨w1,hmk,hh1,hB1⟩:=made w 32 3 (.int .i64 0) 8 L Tryz.underlying32 Tryz.gw rfl (by omega) (by omega)
 rw[Af]at hh1;have hs1:w.heap.size<w1.heap.size:=(Array.getElem?_eq_some_iff.1 hh1).1;have HH1:=hid hh1;clear hh1;go_in;go_wp2_with fail
 refine(iV w1 cb co L cap N c V (C.below hB1) (hT.below hB1)).mono ?_
 rintro e w2 ⟨rfl,hg2,hB2⟩;clear hmk;go_wp2_with fail
 go_loopw [4,13] (fun n i wr=>∃k:Nat,k≤L∧i=.int .i64 k∧n=.int .i64 (cK (aT c N) k)∧wr.heap[w.heap.size]?=some (.cells (il L (cP (aT c N) k)).toArray 3 (0,0))∧wr.heap[w1.heap.size]?=some (.cells (bl L (aT c N)).toArray 4 (0,0))∧Below w.heap.size w wr) (fun _ i _=>L-(intOf i).toNat)
 case atStart=>
  refine⟨0,by omega,rfl,rfl,?_,hg2,hB1.trans (hB2.mono hB1.size)⟩
  rw[hB2.block _ hs1,HH1.out]
  have:cP (aT c N) 0=fun _=>0:=by funext i;unfold cP;rw[if_neg (by omega)]
  rw[this]
 case round=>
  obtain⟨k,hk,rfl,rfl,hh,hg,hB⟩:=hrel
  have hle:=gy (aT c N) k;by_cases hlt:k<L
  ·have hi1:(k:Int)<(L:Int):=(by omega);have cg:wr.cell? ⟨w1.heap.size,k,none⟩=some (.bool (aT c N k)):=by
    rw[cell_of_row wr w1.heap.size _ _ _ _ hg,List.getElem?_toArray];exact iU L _ _ hlt
   have ch:wr.cell? ⟨w.heap.size,k,none⟩=some (.int .i64 (cP (aT c N) k k)):=by
    rw[cell_of_row wr w.heap.size _ _ _ _ hh,List.getElem?_toArray];exact jF L _ _ hlt
   have fh:=frozen_of_row wr w.heap.size k _ _ hh;have HC:Hid (cK (aT c N) (k+1)=cK (aT c N) k+if aT c N k then 1 else 0):=rfl;have hha:=gX hh k (.int .i64 (-1)) (qE L (cP (aT c N) k) (fun i=>if i=k then -1 else cP (aT c N) k i) k (-1) (fun i _=>rfl));have hBa:=hB.setCell (p:=⟨w.heap.size,k,none⟩) (Nat.le_refl _) (.int .i64 (-1));have hne:¬w1.heap.size=w.heap.size:=by omega
   cases hf:aT c N k with
   |false=>
    rw[hf]at HC cg;have HR:Hid ((wr.setCell ⟨w.heap.size,k,none⟩ (.int .i64 (-1))).heap[w.heap.size]?=some (.cells (il L (cP (aT c N) (k+1))).toArray 3 (0,0))∧(wr.setCell ⟨w.heap.size,k,none⟩ (.int .i64 (-1))).heap[w1.heap.size]?=some (.cells (bl L (aT c N)).toArray 4 (0,0))):=by
     refine⟨?_,(heap_setCell_other _ ⟨w.heap.size,k,none⟩ _ _ hne).trans hg⟩
     refine gX hh k _ (qE L _ _ k (-1) (fun i _=> ?_));unfold cP vG;by_cases e:i=k
     ·subst e;rw[if_pos (by omega),if_pos rfl,hf];rfl
     ·rw[if_neg e];by_cases e2:i<k
      ·rw[if_pos e2,if_pos (by omega)]
      ·rw[if_neg e2,if_neg (by omega)]
    clear hh hg hha;go_wp2;go_roundw
    case rel=>exact ⟨k+1,by omega,by go_num,by rw[HC.out];simp,HR.out.1,HR.out.2,hBa⟩
    case measure=>simp [intOf];omega
   |true=>
    rw[hf]at HC cg;have hBb:=hBa.setCell (p:=⟨w.heap.size,k,none⟩) (Nat.le_refl _) (.int .i64 (cK (aT c N) k));have HR:Hid (((wr.setCell ⟨w.heap.size,k,none⟩ (.int .i64 (-1))).setCell ⟨w.heap.size,k,none⟩ (.int .i64 (cK (aT c N) k))).heap[w.heap.size]?=some (.cells (il L (cP (aT c N) (k+1))).toArray 3 (0,0))∧((wr.setCell ⟨w.heap.size,k,none⟩ (.int .i64 (-1))).setCell ⟨w.heap.size,k,none⟩ (.int .i64 (cK (aT c N) k))).heap[w1.heap.size]?=some (.cells (bl L (aT c N)).toArray 4 (0,0))):=by
     refine⟨?_,(heap_setCell_other _ ⟨w.heap.size,k,none⟩ _ _ hne).trans ((heap_setCell_other _ ⟨w.heap.size,k,none⟩ _ _ hne).trans hg)⟩
     refine gX hha k _ (qE L _ _ k _ (fun i _=> ?_));unfold cP vG;by_cases e:i=k
     ·subst e;rw[if_pos (by omega),if_pos rfl,hf];rfl
     ·rw[if_neg e];show _=if i=k then _ else _
      rw[if_neg e];by_cases e2:i<k
      ·rw[if_pos e2,if_pos (by omega)]
      ·rw[if_neg e2,if_neg (by omega)]
    clear hh hg hha;go_wp2;go_roundw
    case rel=>exact ⟨k+1,by omega,by go_num,by rw[HC.out];simp,HR.out.1,HR.out.2,hBb⟩
    case measure=>simp [intOf];omega
  ·have e:k=L:=(by omega);subst e;go_wp2;go_ret
   exact⟨rfl,hh,hB⟩
theorem oU (w:World)(cb co L cap N:Nat)(c:Nat→Int)(V:VP c L N)(C:Laid w cb co L cap c)(hT:bK w):
  Calls Tryz.prog 65 #[.slice (some ⟨cb,co,none⟩) L cap] w fun e w'=>∃g,w.heap.size≤g∧e=.returned (.slice (some ⟨g,0,none⟩) L L)∧w'.heap[g]?=some (.cells (il L (cP (aT c N) L)).toArray 3 (0,0))∧Below w.heap.size w w':=by
 go_in;go_wp2_with fail
 refine(vB w cb co L cap N c V C hT).mono ?_
 rintro e w1 ⟨rfl,hB1⟩;go_wp2_with fail
 refine(jP w1 cb co L cap N c V (C.below hB1) (hT.below hB1)).mono ?_
 rintro e w2 ⟨rfl,hg2,hB2⟩;go_wp2;go_ret
 exact⟨_,hB1.size,rfl,hg2,hB1.trans (hB2.mono hB1.size)⟩
def G5 (c:Nat→Int)(m i:Nat):Bool:=(List.range m).any fun t=>pos c t==i&&c (pos c t)==20
theorem vH (c:Nat→Int)(m i:Nat):G5 c (m+1) i=(G5 c m i||(pos c m==i&&c (pos c m)==20)):=by
 unfold G5;rw[List.range_succ,List.any_append]
 simp
def jQ (c:Nat→Int)(m i:Nat):Int:=if G5 c m i then c (i+1)else -1
theorem Bu (c:Nat→Int)(m:Nat)(h:(c (pos c m)==20)=false):jQ c (m+1)=jQ c m:=by
 funext i
 unfold jQ;rw[vH,h]
 simp
theorem DR (c:Nat→Int)(m i:Nat)(h:(c (pos c m)==20)=true):jQ c (m+1) i=if i=pos c m then c (pos c m+1)else jQ c m i:=by
 unfold jQ;rw[vH,h];by_cases e:i=pos c m
 ·subst e;simp
 ·have:(pos c m==i)=false:=by rw[beq_eq_false_iff_ne];exact fun h=>e h.symm
  rw[if_neg e,this]
  simp
theorem vI {c:Nat→Int}{L N z:Nat}(S:SP c L N z)(p:Nat): -1≤jQ c N p∧jQ c N p≤255:=by
 unfold jQ
 cases h:G5 c N p with
 |false=>simp
 |true=>
  unfold G5 at h;rw[List.any_eq_true]at h
  obtain⟨m,hm,e⟩:=h
  simp only[Bool.and_eq_true,beq_iff_eq]at e
  obtain⟨rfl,e2⟩:=e
  have h1:=S.fits m (List.mem_range.1 hm);rw[e2]at h1
  have:bp (20:Int).toNat=2:=rfl
  have:=S.byte (pos c m+1) (by omega)
  simp
  omega
theorem ox (w:World)(cb co L cap N z:Nat)(c:Nat→Int)(V:SP c L N z)(hN:pos c N=L)(C:Laid w cb co L cap c)(hT:bK w):
  Calls Tryz.prog 105 #[.slice (some ⟨cb,co,none⟩) L cap] w fun e w'=>e=.returned (.slice (some ⟨w.heap.size,0,none⟩) L L)∧w'.heap[w.heap.size]?=some (.cells (il L (jQ c N)).toArray 3 (0,0))∧Below w.heap.size w w':=by
 have hfs:=dD;have hmost:=V.most
 obtain⟨w1,hmk,hh1,hB1⟩:=made w 32 3 (.int .i64 0) 8 L Tryz.underlying32 Tryz.gw rfl (by omega) (by omega)
 rw[Af]at hh1;have HH1:=hid hh1;clear hh1;go_in;go_wp2;clear hmk;go_loopw [11] (fun i wr=>∃k:Nat,k≤L∧i=.int .i64 k∧wr.heap[w.heap.size]?=some (.cells (il L (fun i=>if i<k then -1 else 0)).toArray 3 (0,0))∧Below w.heap.size w wr) (fun i _=>L-(intOf i).toNat)
 case atStart=>exact ⟨0,by omega,rfl,by simpa using HH1.out,hB1⟩
 case round=>
  obtain⟨k,hk,rfl,hh,hB⟩:=hrel
  by_cases hlt:k<L
  ·have hi1:(k:Int)<(L:Int):=(by omega);have ch:wr.cell? ⟨w.heap.size,k,none⟩=some (.int .i64 (if k<k then -1 else 0)):=by
    rw[cell_of_row wr w.heap.size _ _ _ _ hh,List.getElem?_toArray];exact jF L _ _ hlt
   have fh:=frozen_of_row wr w.heap.size k _ _ hh;have HR:Hid ((wr.setCell ⟨w.heap.size,k,none⟩ (.int .i64 (-1))).heap[w.heap.size]?=some (.cells (il L (fun i=>if i<k+1 then -1 else 0)).toArray 3 (0,0))):=by
    refine gX hh k _ (qE L _ _ k (-1) (fun i _=> ?_));by_cases e:i=k
    ·subst e;rw[if_pos (by omega),if_pos rfl]
    ·rw[if_neg e];by_cases e2:i<k
     ·rw[if_pos e2,if_pos (by omega)]
     ·rw[if_neg e2,if_neg (by omega)]
   have hBa:=hB.setCell (p:=⟨w.heap.size,k,none⟩) (Nat.le_refl _) (.int .i64 (-1));clear hh;go_wp2;go_roundw
   case rel=>exact ⟨k+1,by omega,by go_num,HR.out,hBa⟩
   case measure=>simp [intOf];omega
  ·have e:k=L:=(by omega);subst e;have HH:Hid (wr.heap[w.heap.size]?=some (.cells (il k (jQ c 0)).toArray 3 (0,0))):=by
    show wr.heap[w.heap.size]?=_;rw[hh]
    have:il k (fun i=>if i<k then -1 else 0)=il k (jQ c 0):=by
     unfold il;apply List.map_congr_left;intro i hi;show Value.int .i64 (if i<k then -1 else 0)=_;rw[if_pos (List.mem_range.1 hi)];rfl
    rw[this]
   clear HH1 hh;go_wp2;go_loopw [5] (fun i wx=>∃m:Nat,m≤N∧i=.int .i64 (pos c m)∧wx.heap[w.heap.size]?=some (.cells (il k (jQ c m)).toArray 3 (0,0))∧Below w.heap.size w wx) (fun i _=>k-(intOf i).toNat)
   case atStart=>exact ⟨0,by omega,rfl,HH.out,hB⟩
   case round=>
    clear HH hB
    obtain⟨m,hm,rfl,hh,hB⟩:=hrel
    by_cases hlt:m<N
    ·obtain⟨kk,A,hsucc⟩:=V.at hlt
     have hck:=C.at hB A.lt;rw[A.op]at hck;have h1:=A.lt;have h2:=A.fits;have h3:=A.sz;have h4:=A.s1;have h5:=A.s2;have h6:=A.pos;have h7:=A.most;have hk2:=A.k;have hop:=A.op;have HS:=hid hsucc;have HZ:=hid h3;have hi1:(pos c m:Int)<(k:Int):=(by omega);have hTr:=hid (hT.below hB);have hlt2:w.heap.size<wr.heap.size:=(Array.getElem?_eq_some_iff.1 hh).1
     cases h20:((kk:Int)==20)with
     |false=>
      have HR:Hid (wr.heap[w.heap.size]?=some (.cells (il k (jQ c (m+1))).toArray 3 (0,0))):=by
       show wr.heap[w.heap.size]?=_;rw[hh,Bu c m (by rw[hop];exact h20)]
      clear hsucc h3 A hop hh;go_wp2_with(go_at_call 112;refine(ak kk (by omega) _ hTr.out).mono ?_;rintro e w' ⟨rfl,cc2,rfl⟩)
      go_roundw
      case rel=>exact ⟨m+1,by omega,by rw[HS.out,HZ.out],by rw[Below.heap_alloc _ _ _ hlt2];exact HR.out,hB.alloc (by omega) _⟩
      case measure=>simp [intOf];omega
     |true=>
      have hkk:kk=20:=by simp at h20;omega
      have hsz2:bp kk=2:=by rw[hkk];rfl
      have hck2:=C.at hB (p:=pos c m+1) (by omega);have hby:=V.byte (pos c m+1) (by omega);have hi3:(pos c m:Int)+1<(k:Int):=(by omega);have ch:wr.cell? ⟨w.heap.size,pos c m,none⟩=some (.int .i64 (jQ c m (pos c m))):=by
       rw[cell_of_row wr w.heap.size _ _ _ _ hh,List.getElem?_toArray];exact jF k _ _ h1
      have fh:=frozen_of_row wr w.heap.size (pos c m) _ _ hh;have HR:Hid ((wr.setCell ⟨w.heap.size,pos c m,none⟩ (.int .i64 (c (pos c m+1)))).heap[w.heap.size]?=some (.cells (il k (jQ c (m+1))).toArray 3 (0,0))):=
       gX hh _ _ (qE k _ _ _ _ (fun i _=>DR c m i (by rw[hop];exact h20)))
      have hBa:=hB.setCell (p:=⟨w.heap.size,pos c m,none⟩) (Nat.le_refl _) (.int .i64 (c (pos c m+1)));have hTa:=hid (hT.below hBa);have hcka:=C.at hBa h1;rw[hop]at hcka;have hcb:=C.blk;have hb0:=hby.1;have hb1:=hby.2;clear hsucc h3 A hop hh hsz2 hkk hby
      go_wp2_with(go_at_call 112;refine(ak kk (by omega) _ hTa.out).mono ?_;rintro e w' ⟨rfl,cc2,rfl⟩)
      go_roundw
      case rel=>exact ⟨m+1,by omega,by rw[HS.out,HZ.out],by rw[Below.heap_alloc _ _ _ (by simpa using hlt2)];exact HR.out,hBa.alloc (by simp;omega) _⟩
      case measure=>simp [intOf];omega
    ·have e:m=N:=(by omega);subst e;rw[hN];go_wp2;go_ret
     exact⟨rfl,hh,hB⟩
theorem qF (w:World)(cb co L cap N z:Nat)(c:Nat→Int)(V:SP c L N z)(hN:pos c N=L)(hp:bJ c N=true)(C:Laid w cb co L cap c)(hT:bK w):
  Calls Tryz.prog 65 #[.slice (some ⟨cb,co,none⟩) L cap] w fun e w'=>∃g,w.heap.size≤g∧e=.returned (.slice (some ⟨g,0,none⟩) L L)∧w'.heap[g]?=some (.cells (il L (jQ c N)).toArray 3 (0,0))∧Below w.heap.size w w':=by
 have hprobe:=nB w cb co L cap N z c V hN C hT;rw[hp]at hprobe;go_in;go_wp2_with fail
 refine hprobe.mono ?_;rintro e w1 ⟨rfl,hB1⟩;go_wp2_with fail
 refine(ox w1 cb co L cap N z c V hN (C.below hB1) (hT.below hB1)).mono ?_
 rintro e w2 ⟨rfl,hg2,hB2⟩;go_wp2;go_ret
 exact⟨_,hB1.size,rfl,hg2,hB1.trans (hB2.mono hB1.size)⟩
theorem GH (w:World)(cb co L cap N:Nat)(c:Nat→Int)(V:VP c L N)(C:Laid w cb co L cap c)(hT:bK w):
  Calls Tryz.prog 98 #[.slice (some ⟨cb,co,none⟩) L cap,.int .i64 80,.int .u8 19] w fun e w'=>e=.returned (.tuple #[.int .i64 0,.bool false])∧Below w.heap.size w w':=by
 have hmost:=V.most;have h80:¬(80:Int)<(L:Int):=by omega
 have hLL:¬(L:Int)<(L:Int):=by omega
 go_in;go_wp2_with fail
 refine(qu w cb co L cap N c V C hT).mono ?_
 rintro e w1 ⟨rfl,B1⟩;go_wp2_with fail
 refine(tT w1 cb co L cap N c V (C.below B1) (hT.below B1)).mono ?_
 rintro e w2 ⟨rfl,B2⟩;have B12:=B1.trans (B2.mono B1.size);go_wp2_with fail
 refine(qA w2 cb co L cap N c V (C.below B12) (hT.below B12)).mono ?_
 rintro e w3 ⟨rfl,B3⟩;go_wp2_with fail
 go_ret2
 exact⟨rfl,B12.trans (B3.mono B12.size)⟩
end Go.Proofs.YtmpgjkhchfcjlaaGreatDoor
